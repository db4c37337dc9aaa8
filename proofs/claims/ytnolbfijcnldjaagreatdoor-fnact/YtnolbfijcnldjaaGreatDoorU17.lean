/- Lemmas that the proofs of this seat share: CloneA, InsA, Place, InsB. -/
import Derived.Test.YtnolbfijcnldjaaGreatDoorU10
import Derived.Test.YtnolbfijcnldjaaGreatDoorU04
import Derived.Deep.Upon
import Derived.Test.YtnolbfijcnldjaaGreatDoorU09
import Derived.Laws.CopyRow
import Derived.Lib.AppendZerosOnto
import Derived.Lib.Overlaps
import Derived.Lib.Bytealg
import Derived.Lib.Walk
import Derived.Test.YtnolbfijcnldjaaGreatDoorU15
/- A copy of objects, and of names, of the call's own. -/
namespace Go.Proofs.YtnolbfijcnldjaaGreatDoor
open Go.RowKit

theorem OwnT.base' {w : World} {B B' b c : Nat} {os : List LObj} {vs : Nat → Value} (h : OwnT w B b c os vs) (hB : B' ≤ B) : OwnT w B' b c os vs :=
  ⟨by have := h.lo; omega, h.row, fun i o ho => by
    obtain ⟨h1, h2, h3, h4, h5, h6, h7⟩ := h.at_ i o ho
    refine ⟨h1, h2, h3, h4, h5, ⟨h6.1, ?_⟩, h7⟩
    rcases h6.2 with h | ⟨g, cap, cur, q1, q2, q3⟩
    · exact .inl h
    · exact .inr ⟨g, cap, cur, q1, by omega, q3⟩, h.apart⟩

/-- What an append of names onto nothing leaves. -/
def NewEnts (w w' : World) (B : Nat) (v : Value) (es : List LEnt) : Prop := OwnEnts w' B v es ∧ w.grownBy w' none ∧ (v.ownBlock = none ∨ v.ownBlock = some w.heap.size)
theorem run_app_new (w : World) (ty : TypeId) (B m c : Nat) (ka : Option Addr) (es : List LEnt) (hm : m = es.length) (hB : B ≤ w.heap.size) (hbd : m ≤ 1048576)
    (hsrc : m ≠ 0 → ∃ ad, ka = some ad ∧ ∀ j u, (entCells es)[j]? = some u → w.cell? (ad.add j) = some u) :
    ∃ a' c' w', (Builtin.append_ #[36, 36] ty #[.slice none 0 0, .slice ka m c]).run Tryz.prog w = .ok (.slice a' m c') w' ∧ NewEnts w w' B (.slice a' m c') es := by
  obtain ⟨i0, hi, hz0, hz1, hz2⟩ := info_parts info47'
  by_cases h0 : m = 0
  · subst h0
    obtain rfl : es = [] := List.eq_nil_of_length_eq_zero hm.symm
    have hs : Src Tryz.prog i0.size 36 (.slice ka 0 c) 0 [] w := by
      cases ka with
      | none => exact Src.ofNil w Tryz.underlying36 c
      | some ad => exact Src.ofSlice w Tryz.underlying36 ad 0 c [] (by simp) (fun j u hu => by simp at hu) (fun u hu => by simp at hu)
    exact ⟨none, 0, w, run_append_nothing (P := Tryz.prog) w 36 36 ty 53 i0 Tryz.underlying36 hi none 0 0 (Nat.le_refl _) _ hs, OwnEnts.bare w B, World.grownBy.refl w none, .inl rfl⟩
  · obtain ⟨ad, rfl, hc⟩ := hsrc h0
    obtain ⟨v', w', hr, h2, h3, h4, h5⟩ := run_append_own_at (P := Tryz.prog) w B 36 ty 53 i0 _ 2 24 Tryz.underlying36 hi hz0 hz1 hz2 rfl (by decide) _ _ _ (OwnEnts.bare w B) ad m c (entCells es) (by rw [entCells_len, hm]) hc (entCells_one _) (by unfold maxLen; simp; omega) (by simp; omega) hB
    have h2' := h2
    rcases h2.2 with ⟨hv, _⟩ | ⟨g', cap', cur, rfl, hb, hg, _⟩
    · exact absurd (h4.1 hv).2 h0
    · have h5' : g' = w.heap.size := by simpa [Value.ownBlock] using h5
      simp only [List.length_nil, Nat.zero_add] at hr h2'
      refine ⟨_, _, _, hr, ?_, by simpa [Value.ownBlock] using h3, .inr (by simp [Value.ownBlock, h5'])⟩
      unfold OwnEnts
      rw [← hm]
      simpa [entCells] using h2'
theorem wpList_app_new (w : World) {ops : Array Oper} {rest : List Oper} {o : Oper} {a : Act} {Q : Exit → Act → World → Prop} (hgd : o.guard = none) (s x : Operand)
    (ho : o.op = .call { callee := .builtin .append, args := #[s, x], argTypes := #[36, 36] }) (B m c : Nat) (ka : Option Addr) (es : List LEnt) (hs : a.eval s = .slice none 0 0) (hx : a.eval x = .slice ka m c) (hm : m = es.length) (hB : B ≤ w.heap.size) (hbd : m ≤ 1048576)
    (hsrc : m ≠ 0 → ∃ ad, ka = some ad ∧ ∀ j u, (entCells es)[j]? = some u → w.cell? (ad.add j) = some u)
    (h : ∀ a' c' w', NewEnts w w' B (.slice a' m c') es → wpList Tryz.prog ops Q rest (a.put o.dst (.slice a' m c')) w') : wpList Tryz.prog ops Q (o :: rest) a w :=
  wpList_plain hgd fun _ hK => by
    obtain ⟨a', c', w', hr, h2⟩ := run_app_new w o.type B m c ka es hm hB hbd hsrc
    unfold Oper.wp execOp
    simp only [ho, resolve, invoke, builtin, Sem.run_bind, Sem.run_pure, Result.andThen_ok, List.map_toArray, List.map_cons, List.map_nil, hs, hx, hr]
    exact hK _ _ (h a' c' w' h2)

theorem objCells_one (os : List LObj) (vs : Nat → Value) (h : ∀ i, (vs i).oneCell' = true) : ∀ k, ∀ u ∈ objCells os vs k, u.oneCell' = true
  | 0, u, hu => by simp [objCells] at hu
  | k + 1, u, hu => by
    simp only [objCells, List.mem_append] at hu
    rcases hu with hu | hu
    · exact objCells_one os vs h k u hu
    · cases ho : os[k]? with
      | none => simp [ho] at hu
      | some o =>
        simp [ho] at hu
        rcases hu with rfl | rfl | rfl | rfl
        · rfl
        · rfl
        · rfl
        · exact h k
theorem objCells_get (os : List LObj) (vs : Nat → Value) (k j : Nat) (u : Value) (hk : k ≤ os.length) (h : (objCells os vs k)[j]? = some u) : ∃ i o, os[i]? = some o ∧ i < k ∧ ((j = i * 4 ∧ u = .int .i64 o.kind) ∨ (j = i * 4 + 1 ∧ u = .int .i64 o.ver) ∨ (j = i * 4 + 2 ∧ u = .string o.text) ∨ (j = i * 4 + 3 ∧ u = vs i)) := by
  have hl := (List.getElem?_eq_some_iff.1 h).1
  rw [objCells_len os vs k hk] at hl
  have hi : j / 4 < k := by omega
  have ho : os[j / 4]? = some (os[j / 4]'(by omega)) := by simp [show j / 4 < os.length by omega]
  obtain ⟨h0, h1, h2, h3⟩ := objCells_at os vs k hk (j / 4) _ hi ho
  refine ⟨j / 4, _, ho, hi, ?_⟩
  have hr : j % 4 = 0 ∨ j % 4 = 1 ∨ j % 4 = 2 ∨ j % 4 = 3 := by omega
  rcases hr with hr | hr | hr | hr
  · have e : j = j / 4 * 4 := by omega
    rw [← e, h] at h0
    exact .inl ⟨e, by simpa using h0⟩
  · have e : j = j / 4 * 4 + 1 := by omega
    rw [← e, h] at h1
    exact .inr (.inl ⟨e, by simpa using h1⟩)
  · have e : j = j / 4 * 4 + 2 := by omega
    rw [← e, h] at h2
    exact .inr (.inr (.inl ⟨e, by simpa using h2⟩))
  · have e : j = j / 4 * 4 + 3 := by omega
    rw [← e, h] at h3
    exact .inr (.inr (.inr ⟨e, by simpa using h3⟩))

/-- What the names of the objects are, as values. -/
structure KidsV (w : World) (L U : Nat) (os : List LObj) (ks : Nat → Value) : Prop where
  one : ∀ i, (ks i).oneCell' = true
  at_ : ∀ i o, os[i]? = some o → o.text.size ≤ maxLen ∧ ∃ ka kc, ks i = .slice ka o.kids.length kc ∧ EntsAt w L U ka o.kids.length o.kids
theorem ks_of {w : World} {L U n : Nat} {a : Option Addr} {os : List LObj} (H : ObjsAt w L U a n os) (hn : n ≠ 0) : ∃ b off ks, a = some ⟨b, off, none⟩ ∧ L ≤ b ∧ b < U ∧ (∀ j u, (objCells os ks n)[j]? = some u → w.cell? ((⟨b, off, none⟩ : Addr).add j) = some u) ∧ KidsV w L U os ks := by
  obtain ⟨b, off, ha, hL, hU, hc⟩ := H.at_ hn
  obtain ⟨l, hl, hp⟩ := list_of (n := n) (p := fun i (v : Value) => ∃ o ka kc, os[i]? = some o ∧ v = .slice ka o.kids.length kc ∧ o.text.size ≤ maxLen ∧ w.cell? ⟨b, off + i * 4, none⟩ = some (.int .i64 o.kind) ∧ w.cell? ⟨b, off + i * 4 + 1, none⟩ = some (.int .i64 o.ver) ∧ w.cell? ⟨b, off + i * 4 + 2, none⟩ = some (.string o.text) ∧ w.cell? ⟨b, off + i * 4 + 3, none⟩ = some v ∧ EntsAt w L U ka o.kids.length o.kids) (fun i hi => by
    obtain ⟨o, ka, kn, kc, q1, q2, q3, q4, q5, q6, q7⟩ := hc i hi
    have hk := q7.len
    subst hk
    exact ⟨_, o, ka, kc, q1, rfl, q2, q3, q4, q5, q6, q7⟩)
  have hlen := H.len
  refine ⟨b, off, fun i => (l[i]?).getD (.slice none 0 0), ha, hL, hU, fun j u hu => ?_, fun i => ?_, fun i o ho => ?_⟩
  · obtain ⟨i, o, ho, hi, h⟩ := objCells_get os _ n j u (by omega) hu
    obtain ⟨v, hv, o', ka, kc, q1, q2, q3, q4, q5, q6, q7, q8⟩ := hp i hi
    rw [ho] at q1
    cases q1
    have hadd : (⟨b, off, none⟩ : Addr).add j = ⟨b, off + j, none⟩ := by unfold Addr.add; split <;> simp_all
    rw [hadd]
    rcases h with ⟨rfl, rfl⟩ | ⟨rfl, rfl⟩ | ⟨rfl, rfl⟩ | ⟨rfl, rfl⟩
    · exact q4
    · exact q5
    · exact q6
    · simpa [hv, Nat.add_assoc] using q7
  · by_cases hi : i < n
    · obtain ⟨v, hv, o', ka, kc, q1, rfl, _⟩ := hp i hi
      simp [hv, Value.oneCell']
    · have : l[i]? = none := by simp [hl]; omega
      simp [this, Value.oneCell']
  · have hi : i < n := by rw [hlen]; exact (List.getElem?_eq_some_iff.1 ho).1
    obtain ⟨v, hv, o', ka, kc, q1, rfl, q3, q4, q5, q6, q7, q8⟩ := hp i hi
    rw [ho] at q1
    cases q1
    exact ⟨q3, ka, kc, by simp [hv], q8⟩

def CloneEnd (w : World) (n : Nat) (xs : List Value) (e : Ending) (w' : World) : Prop := (∃ g cap, e = .returned (.slice (some ⟨g, 0, none⟩) n cap) ∧ w'.ownsRow w.heap.size 38 4 (.slice (some ⟨g, 0, none⟩) n cap) n xs) ∧ Below w.heap.size w w'
set_option maxRecDepth 100000 in
theorem copy_objs (b off n c : Nat) (os : List LObj) (ks : Nat → Value) (w : World) (hn : n = os.length) (h0 : 0 < n) (hbd : n ≤ 1048576) (hk1 : ∀ i, (ks i).oneCell' = true) (hc : ∀ j u, (objCells os ks n)[j]? = some u → w.cell? ((⟨b, off, none⟩ : Addr).add j) = some u) :
    Calls Tryz.prog 138 #[.slice (some ⟨b, off, none⟩) n c] w fun e w' => CloneEnd w n (objCells os ks n) e w' := by
  obtain ⟨i0, hi, hq0, hq1, hq2⟩ := info_parts info34'
  have HL : Hid ((objCells os ks n).length = n * 4) := objCells_len os ks n (by omega)
  have H1 : Hid (∀ u ∈ objCells os ks n, u.oneCell' = true) := objCells_one os ks hk1 n
  have HC : Hid (∀ j u, (objCells os ks n)[j]? = some u → w.cell? ((⟨b, off, none⟩ : Addr).add j) = some u) := hc
  clear hc hn
  go_enter Tryz.func138, Tryz.ntmps138
  go_wp2_with (first
    | (at_builtin; refine wpList_append_lies _ rfl (.const (.slice none 0 0)) (.tmp 3) 23 rfl w.heap.size 38 i0 _ 4 56 Tryz.underlying23 hi hq0 hq1 hq2 rfl (by decide) _ 0 [] rfl (World.ownsRow_nil _ _ _ _) ⟨b, off, none⟩ n c (objCells os ks n) rfl HL.out ?c1 H1.out h0 ?c4 ?c5 ?c6 _ rfl ?_)
    | go_in)
  case c1 => exact fun j u hu => HC.out j u hu
  case c4 => unfold maxLen; omega
  case c5 => omega
  case c6 => simp
  intro g cap w1 hown hgrow hat hlt
  have hbel : Below w.heap.size w w1 := below_grown (Below.refl _ _) hgrow (fun k hk => by simp [Value.ownBlock] at hk) (Nat.le_refl _)
  have hown' : Hid (w1.ownsRow w.heap.size 38 4 (.slice (some ⟨g, 0, none⟩) n cap) n (objCells os ks n)) := by show World.ownsRow _ _ _ _ _ _ _; simpa using hown
  clear hown hgrow hat hlt
  go_wp2_with fail
  go_ret
  exact ⟨⟨g, cap, by simp, hown'.out⟩, hbel⟩
theorem copy_ents (B : Nat) (ka : Option Addr) (m c : Nat) (es : List LEnt) (L U : Nat) (w : World) (hB : B ≤ w.heap.size) (hbd : m ≤ 1048576) (H : EntsAt w L U ka m es) :
    Calls Tryz.prog 139 #[.slice ka m c] w fun e w' => ∃ a' c', e = .returned (.slice a' m c') ∧ NewEnts w w' B (.slice a' m c') es := by
  have HE : Hid (EntsAt w L U ka m es) := H
  have hm := H.len
  have HM : Hid (m = es.length) := hm
  clear H hm
  go_enter Tryz.func139, Tryz.ntmps139
  go_wp2_with (first
    | (at_builtin; refine wpList_app_new _ rfl (.const (.slice none 0 0)) (.tmp 3) rfl B _ _ _ es rfl rfl HM.out hB hbd ?c2 ?_)
    | go_in)
  case c2 =>
    intro hne
    obtain ⟨kb, koff, rfl, _, _, hkc⟩ := HE.out.at_ hne
    exact ⟨_, rfl, ents_cells HM.out hkc⟩
  intro a' c' w2 hnew
  have HN : Hid (NewEnts w w2 B (.slice a' m c') es) := hnew
  clear hnew
  go_wp2_with fail
  go_ret
  exact ⟨a', c', rfl, HN.out⟩
end Go.Proofs.YtnolbfijcnldjaaGreatDoor

/- Rows of names that are spliced: copy of elements of two cells; the plain lists. -/
namespace Go.Proofs.YtnolbfijcnldjaaGreatDoor
open Go.RowKit

def splice (l : List Value) (o : Nat) (cs : List Value) : List Value := l.take o ++ cs ++ l.drop (o + cs.length)
theorem splice_len (l : List Value) (o : Nat) (cs : List Value) (h : o + cs.length ≤ l.length) : (splice l o cs).length = l.length := by
  simp [splice]; omega
theorem splice_get (l : List Value) (o : Nat) (cs : List Value) (h : o + cs.length ≤ l.length) (j : Nat) : (splice l o cs)[j]? = if j < o then l[j]? else if j < o + cs.length then cs[j - o]? else l[j]? := by
  have h1 : min o l.length = o := by omega
  unfold splice
  by_cases ha : j < o
  · rw [List.append_assoc, List.getElem?_append_left (by simp; omega), if_pos ha, List.getElem?_take, if_pos ha]
  · rw [if_neg ha]
    by_cases hb : j < o + cs.length
    · rw [if_pos hb, List.append_assoc, List.getElem?_append_right (by simp; omega), List.getElem?_append_left (by simp; omega)]
      simp [h1]
    · rw [if_neg hb, List.getElem?_append_right (by simp; omega), List.getElem?_drop]
      congr 1
      simp [h1]
      omega
/-- Shifted up by two, and two put in. -/
theorem splice_shift (l E : List Value) (p : Nat) (u v : Value) (hp : p ≤ E.length) (hl : E.length + 2 ≤ l.length) (hE : l.take E.length = E) :
    (splice (splice l (p + 2) (E.drop p)) p [u, v]).take (E.length + 2) = E.take p ++ [u, v] ++ E.drop p := by
  have hget : ∀ j, j < E.length → l[j]? = E[j]? := fun j hj => by rw [← hE]; simp [hj]
  apply List.ext_getElem?
  intro j
  rw [List.getElem?_take]
  by_cases h0 : j < E.length + 2
  · rw [if_pos h0, splice_get _ _ _ (by rw [splice_len _ _ _ (by simp; omega)]; simp; omega), splice_get _ _ _ (by simp; omega)]
    by_cases h1 : j < p
    · rw [if_pos h1, if_pos (by omega), List.append_assoc, List.getElem?_append_left (by simp; omega), List.getElem?_take, if_pos h1]
      exact hget j (by omega)
    · rw [if_neg h1]
      by_cases h2 : j < p + 2
      · rw [if_pos (by simpa using h2), List.append_assoc, List.getElem?_append_right (by simp; omega), List.getElem?_append_left (by simp; omega)]
        simp [show min p E.length = p by omega]
      · rw [if_neg (by simpa using h2), if_neg h2, if_pos (by simp; omega), List.getElem?_append_right (by simp; omega)]
        congr 1
        simp [show min p E.length = p by omega]
  · rw [if_neg h0]
    symm
    apply List.getElem?_eq_none
    simp; omega
/-- A new row: what was ahead, two, what was behind. -/
theorem splice_new (l E : List Value) (p : Nat) (u v : Value) (hp : p ≤ E.length) (hl : E.length + 2 ≤ l.length) (hE : l.take p = E.take p) :
    (splice (splice l p [u, v]) (p + 2) (E.drop p)).take (E.length + 2) = E.take p ++ [u, v] ++ E.drop p := by
  have hget : ∀ j, j < p → l[j]? = E[j]? := fun j hj => by
    have h1 : (l.take p)[j]? = (E.take p)[j]? := by rw [hE]
    simpa [List.getElem?_take, hj] using h1
  apply List.ext_getElem?
  intro j
  rw [List.getElem?_take]
  by_cases h0 : j < E.length + 2
  · rw [if_pos h0, splice_get _ _ _ (by rw [splice_len _ _ _ (by simp; omega)]; simp; omega), splice_get _ _ _ (by simp; omega)]
    by_cases h1 : j < p
    · rw [if_pos (by omega), if_pos h1, List.append_assoc, List.getElem?_append_left (by simp; omega), List.getElem?_take, if_pos h1]
      exact hget j (by omega)
    · by_cases h2 : j < p + 2
      · rw [if_pos h2, if_neg h1, if_pos (by simpa using h2), List.append_assoc, List.getElem?_append_right (by simp; omega), List.getElem?_append_left (by simp; omega)]
        simp [show min p E.length = p by omega]
      · rw [if_neg h2, if_pos (by simp; omega), List.getElem?_append_right (by simp; omega)]
        congr 1
        simp [show min p E.length = p by omega]
  · rw [if_neg h0]
    symm
    apply List.getElem?_eq_none
    simp; omega

theorem entCells_take (es : List LEnt) (k : Nat) : (entCells es).take (k * 2) = entCells (es.take k) := by
  by_cases hk : k ≤ es.length
  · have e1 : entCells es = entCells (es.take k) ++ entCells (es.drop k) := by rw [← entCells_app, List.take_append_drop]
    rw [e1, List.take_left' (by rw [entCells_len]; simp; omega)]
  · rw [List.take_of_length_le (by rw [entCells_len]; omega), List.take_of_length_le (by omega)]
theorem entCells_drop (es : List LEnt) (k : Nat) : (entCells es).drop (k * 2) = entCells (es.drop k) := by
  by_cases hk : k ≤ es.length
  · have e1 : entCells es = entCells (es.take k) ++ entCells (es.drop k) := by rw [← entCells_app, List.take_append_drop]
    rw [e1, List.drop_left' (by rw [entCells_len]; simp; omega)]
  · rw [List.drop_of_length_le (by rw [entCells_len]; omega), List.drop_of_length_le (by omega)]
    rfl
theorem entCells_ins (es : List LEnt) (k : Nat) (x : LEnt) : (entCells es).take (k * 2) ++ [.string x.name, .int .i64 x.id] ++ (entCells es).drop (k * 2) = entCells (es.take k ++ [x] ++ es.drop k) := by
  rw [entCells_take, entCells_drop, entCells_app, entCells_app]
  simp [entCells]

theorem run_copy_row2 {P : Program} (w : World) (dT sT ty elem : TypeId) (g o dLen dCap : Nat) (a : Addr) (sLen sCap : Nat) (cur : Array Value) (t : TypeId) (cs : List Value)
    (hu : P.underlying dT = some (.slice elem)) (hs : (P.info? elem).map (·.size) = some 2)
    (hg : w.heap[g]? = some (.cells cur t (0, 0))) (hn : cs.length = Nat.min sLen dLen * 2)
    (hsrc : ∀ j v, cs[j]? = some v → w.cell? (a.add j) = some v) (hfit : o + cs.length ≤ cur.size) (h1 : ∀ v ∈ cs, v.oneCell' = true) :
    (Builtin.copy_ #[dT, sT] ty #[.slice (some ⟨g, o, none⟩) dLen dCap, .slice (some a) sLen sCap]).run P w =
      .ok (goInt (Nat.min sLen dLen)) (w.setRow g (splice cur.toList o cs).toArray) := by
  have hl := run_loadCells_list (P := P) w a cs hsrc
  have hst := run_storeCells_at P g o t cs 0 cur w hg (by simpa using hfit) h1
  cases hq : P.info? elem with
  | none => simp [hq] at hs
  | some i =>
    have hi : i.size = 2 := by simpa [hq] using hs
    simp [Builtin.copy_, run_underlying hu, Builtin.lenOf, Builtin.firstCells, sizeOf, typeInfo, hq, hi, ← hn, hl, hst, splice]
theorem wp_copy_run' {P : Program} (w : World) {o : Oper} {a : Act} {K : Act → World → Prop} {Q : Exit → Act → World → Prop} (d s : Operand) (t t' : TypeId)
    (ho : o.op = .call { callee := .builtin .copy, args := #[d, s], argTypes := #[t, t'] }) (v u : Value) (hd : a.eval d = v) (hs : a.eval s = u) {v' : Value} {w' : World}
    (hr : (Builtin.copy_ #[t, t'] o.type #[v, u]).run P w = .ok v' w') (h : K (a.put o.dst v') w') : o.wp P a w K Q := by
  unfold Oper.wp execOp
  simp only [ho, resolve, invoke, builtin, Sem.run_bind, Sem.run_pure, Result.andThen_ok, List.map_toArray, List.map_cons, List.map_nil, hd, hs, hr]
  exact h
theorem wpList_copy_run' {P : Program} (w : World) {ops : Array Oper} {rest : List Oper} {o : Oper} {a : Act} {Q : Exit → Act → World → Prop} (hgd : o.guard = none) (d s : Operand) (t t' : TypeId)
    (ho : o.op = .call { callee := .builtin .copy, args := #[d, s], argTypes := #[t, t'] }) (v u : Value) (hd : a.eval d = v) (hs : a.eval s = u) {v' : Value} {w' : World}
    (hr : (Builtin.copy_ #[t, t'] o.type #[v, u]).run P w = .ok v' w') (h : wpList P ops Q rest (a.put o.dst v') w') : wpList P ops Q (o :: rest) a w :=
  wpList_plain hgd fun _ hK => wp_copy_run' w d s t t' ho v u hd hs hr (hK _ _ h)

theorem setRow_grown {w0 w : World} {g : Nat} {c : Array Value} {row : Option Nat} (h : w0.grownBy w row) (hg : row = some g ∨ w0.heap.size ≤ g) : w0.grownBy (w.setRow g c) row :=
  ⟨h.os, h.tape, h.output, by simpa using h.size, fun k hk hne => by
    rw [setRow_other w g k c (by rcases hg with rfl | hg <;> intro e <;> subst e <;> simp_all <;> omega)]
    exact h.block k hk hne⟩

/-- A row of one's own, its block laid open. -/
theorem OwnEnts.open_ {w : World} {B g n cap : Nat} {es : List LEnt} (h : OwnEnts w B (.slice (some ⟨g, 0, none⟩) n cap) es) : ∃ cur, B ≤ g ∧ w.heap[g]? = some (.cells cur 53 (0, 0)) ∧ n = es.length ∧ n ≤ cap ∧ cap ≤ maxLen ∧ cur.size = cap * 2 ∧ cur.toList.take (n * 2) = entCells es := by
  rcases h.2 with ⟨h', _⟩ | ⟨g', cap', cur, h', hb, hg, hnc, hcm, hcs, htake⟩
  · simp at h'
  · simp only [Value.slice.injEq, Option.some.injEq, Addr.mk.injEq, and_true] at h'
    obtain ⟨rfl, rfl, rfl⟩ := h'
    exact ⟨cur, hb, hg, rfl, hnc, hcm, hcs, htake⟩
theorem OwnEnts.mk_ {w : World} {B g n cap : Nat} {es : List LEnt} {cur : Array Value} (hB : B ≤ g) (hg : w.heap[g]? = some (.cells cur 53 (0, 0))) (hn : n = es.length) (hnc : n ≤ cap) (hcm : cap ≤ maxLen) (hcs : cur.size = cap * 2) (ht : cur.toList.take (n * 2) = entCells es) : OwnEnts w B (.slice (some ⟨g, 0, none⟩) n cap) es := by
  subst hn
  exact ⟨by rw [entCells_len], .inr ⟨g, cap, cur, rfl, hB, hg, hnc, hcm, hcs, ht⟩⟩

/-! The place of a name. -/
def PlaceEnd (es : List LEnt) (name : ByteArray) (e : Ending) : Prop := ∃ (x : Nat) (b : Bool), e = .returned (.tuple #[.int .i64 x, .bool b]) ∧ x ≤ es.length ∧ Low es name x ∧ High es name x
theorem placeL_of {es : List LEnt} {name : ByteArray} {x : Nat} (hx : x ≤ es.length) (hl : Low es name x) (hh : High es name x) : placeL name es = x := by
  induction es generalizing x with
  | nil => simp at hx; subst hx; rfl
  | cons e r ih =>
    by_cases h0 : x = 0
    · subst h0
      have h := hh 0 (Nat.le_refl _) e rfl
      have hn : lessN name e = false := by
        rw [Bool.eq_false_iff]
        intro h1
        unfold lessN at h1
        rw [Go.ByteArray.toList_eq, Go.ByteArray.toList_eq] at h1
        exact h ((cmp_less _ _).2 h1)
      simp [placeL, hn]
    · obtain ⟨y, rfl⟩ : ∃ y, x = y + 1 := ⟨x - 1, by omega⟩
      have h := hl 0 (by omega) e rfl
      have hn : lessN name e = true := by
        unfold lessN
        rw [Go.ByteArray.toList_eq, Go.ByteArray.toList_eq]
        exact (cmp_less _ _).1 h
      have h2 := ih (x := y) (by simpa using hx) (fun i hi e' he => hl (i + 1) (by omega) e' (by simpa using he)) (fun i hi e' he => hh (i + 1) (by omega) e' (by simpa using he))
      simp only [placeL] at h2 ⊢
      simp [hn, h2]
theorem putL_of {es : List LEnt} {x : LEnt} {k : Nat} (hk : k ≤ es.length) (hl : Low es x.name k) (hh : High es x.name k) : putL x es = es.take k ++ [x] ++ es.drop k := by
  unfold putL; rw [placeL_of hk hl hh]
theorem less_self : ∀ a : List UInt8, Op.bytesLess a a = false
  | [] => rfl
  | a :: x => by
    have ih := less_self x
    have h : ¬ a < a := by rw [UInt8.lt_iff_toNat_lt]; omega
    simp [Op.bytesLess, ih, h]
/-- The name that is there is at its place. -/
theorem place_there {es : List LEnt} {name : ByteArray} {x k : Nat} {e : LEnt} (ha : Asc es) (hl : Low es name x) (hh : High es name x) (hk : es[k]? = some e) (hn : e.name = name) : x = k := by
  have hz : ¬ Lib.compareBytes (nm e) name.data.toList < 0 := by
    rw [cmp_less, ← hn]
    intro h
    exact absurd (show Op.bytesLess e.name.data.toList e.name.data.toList = true from h) (by rw [less_self]; simp)
  rcases Nat.lt_trichotomy x k with h | h | h
  · obtain ⟨y, hy⟩ : ∃ y, es[x]? = some y := ⟨es[x]'(by have := (List.getElem?_eq_some_iff.1 hk).1; omega), by simp⟩
    have h1 := ha x k y e h hy hk
    have h2 := hh x (Nat.le_refl _) y hy
    rw [cmp_less, ← hn] at h2
    exact absurd h1 h2
  · exact h
  · exact absurd (hl k h e hk) hz
theorem outL_of {es : List LEnt} {name : ByteArray} {k : Nat} {e : LEnt} (ha : Asc es) (hk : es[k]? = some e) (hn : e.name = name) : outL name es = es.take k ++ es.drop (k + 1) := by
  have hlt := (List.getElem?_eq_some_iff.1 hk).1
  have hne : ∀ i y, es[i]? = some y → i ≠ k → (y.name.toList == name.toList) = false := fun i y hy hik => by
    rw [Go.ByteArray.toList_eq, Go.ByteArray.toList_eq, ← hn]
    rcases Nat.lt_or_gt_of_ne hik with h | h
    · have h1 := ha i k y e h hy hk
      rw [beq_eq_false_iff_ne]
      intro h2
      rw [show nm y = nm e from h2, less_self] at h1
      cases h1
    · have h1 := ha k i e y h hk hy
      rw [beq_eq_false_iff_ne]
      intro h2
      rw [show nm y = nm e from h2, less_self] at h1
      cases h1
  have hsp : es = es.take k ++ e :: es.drop (k + 1) := by
    have h1 : es = es.take k ++ es.drop k := (List.take_append_drop k es).symm
    have h2 : es.drop k = e :: es.drop (k + 1) := by
      rw [List.drop_eq_getElem_cons hlt]
      congr 1
      simpa [hlt] using hk
    rw [← h2]; exact h1
  have hl : outL name (es.take k) = es.take k := List.filter_eq_self.2 fun y hy => by
    obtain ⟨i, hi, rfl⟩ := List.getElem_of_mem hy
    have hi' : i < k := by simp at hi; omega
    have := hne i (es.take k)[i] (by simp [show i < es.length by omega]) (by omega)
    simpa using this
  have hr : outL name (es.drop (k + 1)) = es.drop (k + 1) := List.filter_eq_self.2 fun y hy => by
    obtain ⟨i, hi, rfl⟩ := List.getElem_of_mem hy
    have hi' : k + 1 + i < es.length := by simp at hi; omega
    have := hne (k + 1 + i) (es.drop (k + 1))[i] (by simp [hi']) (by omega)
    simpa using this
  have hm : (e.name.toList == name.toList) = true := by rw [hn]; simp
  calc outL name es = outL name (es.take k ++ e :: es.drop (k + 1)) := by rw [← hsp]
    _ = outL name (es.take k) ++ outL name (e :: es.drop (k + 1)) := by simp [outL, List.filter_append]
    _ = outL name (es.take k) ++ outL name (es.drop (k + 1)) := by
      congr 1
      simp [outL, hm]
    _ = _ := by rw [hl, hr]
end Go.Proofs.YtnolbfijcnldjaaGreatDoor

/- The place of a name in a directory, by the program. -/
namespace Go.Proofs.YtnolbfijcnldjaaGreatDoor
open Go.RowKit

set_option maxHeartbeats 1000000 in
set_option maxRecDepth 100000 in
theorem search2_any (a : Option Addr) (n c : Nat) (es : List LEnt) (L U : Nat) (name : ByteArray) (w : World) (hn : n ≤ 1048576) (ha : Asc es) (hU : U ≤ w.heap.size) (H : EntsAt w L U a n es) :
    Calls Tryz.prog 179 #[.slice a n c, .string name, .func (.func 180) #[] #[]] w fun e w' => PlaceEnd es name e ∧ Below w.heap.size w w' := by
  have HL : Hid (n = es.length) := H.len
  go_enter Tryz.func179, Tryz.ntmps179
  go_wp2_with fail
  go_loopg [9, 10] (n + 1) (fun g i j wr => ∃ x y : Nat, x ≤ y ∧ y ≤ n ∧ Hid (g = y - x + 1) ∧ i = .int .i64 x ∧ j = .int .i64 y ∧ Hid (Low es name x ∧ High es name y) ∧ Below w.heap.size w wr)
  case atStart => exact ⟨0, n, by omega, by omega, by show _ = _; omega, rfl, rfl, ⟨fun i hi => by omega, fun i hi e he => by have := (List.getElem?_eq_some_iff.1 he).1; have := HL.out; omega⟩, Below.refl _ _⟩
  case round =>
    obtain ⟨x, y, hxy, hy, hg, rfl, rfl, hq, hb⟩ := hrel
    by_cases hlt : x < y
    · have hlt' : (x : Int) < (y : Int) := by omega
      obtain ⟨h, hh⟩ : ∃ h : Nat, ((x : Int) + (y : Int)) / 2 = (h : Int) := ⟨(x + y) / 2, by omega⟩
      have hh1 : x ≤ h := by omega
      have hh2 : h < y := by omega
      obtain ⟨b, off, ha', hL, hbU, hc⟩ := H.at_ (by omega)
      subst ha'
      obtain ⟨e, he, hsz, hc0, hc1⟩ := hc h (by omega)
      rw [← hb.cell (by simp; omega)] at hc0 hc1
      have HE : Hid (es[h]? = some e) := he
      clear he hc
      have hhn : (h : Int) < (n : Int) := by omega
      have hh0 : (0 : Int) ≤ (h : Int) := by omega
      go_wp2_with fail
      refine (closure_any _ _ _ _).mono ?_
      rintro z w1 ⟨rfl, rfl⟩
      have hb1 : ∀ o, Below w.heap.size w (wr.alloc o) := fun o => hb.alloc hb.size _
      by_cases hcm : Lib.compareBytes e.name.data.toList name.data.toList < 0
      · have HC : Hid (Lib.compareBytes (nm e) name.data.toList < 0) := hcm
        go_wp2_with fail
        go_roundg (y - (h + 1) + 1)
        case measure => have := hg.out; omega
        case rel => exact ⟨h + 1, y, by omega, by omega, rfl, by go_num, rfl, ⟨low_up ha HE.out HC.out, hq.out.2⟩, hb1 _⟩
      · have HC : Hid (¬ Lib.compareBytes (nm e) name.data.toList < 0) := hcm
        go_wp2_with fail
        go_roundg (h - x + 1)
        case measure => have := hg.out; omega
        case rel => exact ⟨x, h, by omega, by omega, rfl, rfl, rfl, ⟨hq.out.1, high_down ha HE.out (by have := HC.out; omega)⟩, hb1 _⟩
    · have hxy' : x = y := by omega
      subst hxy'
      by_cases hxn : x < n
      · obtain ⟨b, off, ha', hL, hbU, hc⟩ := H.at_ (by omega)
        subst ha'
        obtain ⟨e, he, hsz, hc0, hc1⟩ := hc x hxn
        rw [← hb.cell (by simp; omega)] at hc0 hc1
        have HE : Hid (es[x]? = some e) := he
        clear he hc
        have hxn' : (x : Int) < (n : Int) := by omega
        have hx0 : (0 : Int) ≤ (x : Int) := by omega
        have hb1 : ∀ o, Below w.heap.size w (wr.alloc o) := fun o => hb.alloc hb.size _
        go_wp2_with fail
        refine (closure_any _ _ _ _).mono ?_
        rintro z w1 ⟨rfl, rfl⟩
        by_cases hcm : Lib.compareBytes e.name.data.toList name.data.toList = 0
        · have t1 : (Lib.compareBytes e.name.data.toList name.data.toList == 0) = true := by simpa using hcm
          clear hcm
          go_wp2_with fail
          go_ret2
          exact ⟨⟨x, true, rfl, by have := HL.out; omega, hq.out.1, hq.out.2⟩, hb1 _⟩
        · have t1 : (Lib.compareBytes e.name.data.toList name.data.toList == 0) = false := by simpa using hcm
          clear hcm
          go_wp2_with fail
          go_ret2
          exact ⟨⟨x, false, rfl, by have := HL.out; omega, hq.out.1, hq.out.2⟩, hb1 _⟩
      · have hxn' : ¬ (x : Int) < (n : Int) := by omega
        go_wp2_with fail
        go_ret2
        exact ⟨⟨x, false, rfl, by have := HL.out; omega, hq.out.1, hq.out.2⟩, hb⟩

set_option maxHeartbeats 400000 in
theorem place2_any (a : Option Addr) (n c : Nat) (es : List LEnt) (L U : Nat) (name : ByteArray) (w : World) (hn : n ≤ 1048576) (ha : Asc es) (hU : U ≤ w.heap.size) (H : EntsAt w L U a n es) :
    Calls Tryz.prog 137 #[.slice a n c, .string name] w fun e w' => PlaceEnd es name e ∧ Below w.heap.size w w' := by
  go_enter Tryz.func137, Tryz.ntmps137
  go_wp2_with fail
  refine (search2_any _ _ _ _ L U _ _ hn ha hU H).mono ?_
  rintro z w1 ⟨⟨x, b, rfl, hr⟩, hb⟩
  have HR : Hid (x ≤ es.length ∧ Low es name x ∧ High es name x) := hr
  clear hr
  go_wp2_with fail
  go_ret2
  exact ⟨⟨x, b, rfl, HR.out⟩, hb⟩

end Go.Proofs.YtnolbfijcnldjaaGreatDoor

/- slices.Insert of one name into a row of one's own: at the end, with room, and without. -/
namespace Go.Proofs.YtnolbfijcnldjaaGreatDoor
open Go.RowKit

/-- What an insertion leaves: the new row is one's own; what is neither the old one nor new is as it was. -/
def InsPost (w w' : World) (B : Nat) (v v' : Value) (es' : List LEnt) : Prop := OwnEnts w' B v' es' ∧ w.grownBy w' v.ownBlock ∧ ∀ g, v'.ownBlock = some g → v.ownBlock = some g ∨ w.heap.size ≤ g
def InsEnd (w : World) (B : Nat) (v : Value) (n : Nat) (es' : List LEnt) (e : Ending) (w' : World) : Prop := ∃ a' c', e = .returned (.slice a' n c') ∧ InsPost w w' B v (.slice a' n c') es'

theorem run_app_one (w : World) (ty : TypeId) (B n c0 : Nat) (a0 : Option Addr) (es : List LEnt) (x : LEnt) (ad : Addr) (c : Nat) (hn : n = es.length) (hown : OwnEnts w B (.slice a0 n c0) es) (hB : B ≤ w.heap.size) (hbd : n ≤ 1000000)
    (hsrc : ∀ j u, (entCells [x])[j]? = some u → w.cell? (ad.add j) = some u) :
    ∃ a' c' w', (Builtin.append_ #[36, 36] ty #[.slice a0 n c0, .slice (some ad) 1 c]).run Tryz.prog w = .ok (.slice a' (n + 1) c') w' ∧ InsPost w w' B (.slice a0 n c0) (.slice a' (n + 1) c') (es ++ [x]) := by
  obtain ⟨i0, hi, hz0, hz1, hz2⟩ := info_parts info47'
  subst hn
  obtain ⟨v', w', hr, h2, h3, h4, h5⟩ := run_append_own_at (P := Tryz.prog) w B 36 ty 53 i0 _ 2 24 Tryz.underlying36 hi hz0 hz1 hz2 rfl (by decide) _ _ _ hown ad 1 c (entCells [x]) (entCells_len _) hsrc (entCells_one _) (by unfold maxLen; omega) (by omega) hB
  have h2' : OwnEnts w' B v' (es ++ [x]) := by
    unfold OwnEnts
    rw [entCells_app, List.length_append]
    exact h2
  obtain ⟨a', c', rfl⟩ := h2'.shape
  simp only [List.length_append, List.length_cons, List.length_nil, Nat.zero_add] at hr h2' h5 h4
  refine ⟨a', c', w', hr, h2', h3, fun g hg => ?_⟩
  rcases h5 with h5 | h5
  · exact .inl (by rw [← h5]; exact hg)
  · rw [hg] at h5
    simp at h5
    exact .inr (by omega)
theorem wpList_app_one (w : World) {ops : Array Oper} {rest : List Oper} {o : Oper} {a : Act} {Q : Exit → Act → World → Prop} (hgd : o.guard = none) (s x : Operand)
    (ho : o.op = .call { callee := .builtin .append, args := #[s, x], argTypes := #[36, 36] }) (B n c0 : Nat) (a0 : Option Addr) (es : List LEnt) (y : LEnt) (ad : Addr) (c : Nat) (hs : a.eval s = .slice a0 n c0) (hx : a.eval x = .slice (some ad) 1 c)
    (hn : n = es.length) (hown : OwnEnts w B (.slice a0 n c0) es) (hB : B ≤ w.heap.size) (hbd : n ≤ 1000000) (hsrc : ∀ j u, (entCells [y])[j]? = some u → w.cell? (ad.add j) = some u)
    (h : ∀ a' c' w', InsPost w w' B (.slice a0 n c0) (.slice a' (n + 1) c') (es ++ [y]) → wpList Tryz.prog ops Q rest (a.put o.dst (.slice a' (n + 1) c')) w') : wpList Tryz.prog ops Q (o :: rest) a w :=
  wpList_plain hgd fun _ hK => by
    obtain ⟨a', c', w', hr, h2⟩ := run_app_one w o.type B n c0 a0 es y ad c hn hown hB hbd hsrc
    unfold Oper.wp execOp
    simp only [ho, resolve, invoke, builtin, Sem.run_bind, Sem.run_pure, Result.andThen_ok, List.map_toArray, List.map_cons, List.map_nil, hs, hx, hr]
    exact hK _ _ (h a' c' w' h2)

theorem vb_cells {w : World} {vb : Nat} {x : LEnt} (h : w.heap[vb]? = some (.cells #[.string x.name, .int .i64 x.id] 53 (0, 0))) : ∀ j u, (entCells [x])[j]? = some u → w.cell? ((⟨vb, 0, none⟩ : Addr).add j) = some u := by
  intro j u hu
  match j, hu with
  | 0, hu => simp [entCells] at hu; subst hu; simp [Addr.add, World.cell?, h]
  | 1, hu => simp [entCells] at hu; subst hu; simp [Addr.add, World.cell?, h]
theorem add_plain' (b o j : Nat) : (⟨b, o, none⟩ : Addr).add j = ⟨b, o + j, none⟩ := by unfold Addr.add; split <;> simp_all
theorem getRow {w : World} {g : Nat} {cur : Array Value} (hg : w.heap[g]? = some (.cells cur 53 (0, 0))) (k : Nat) (hk : k < cur.size) : w.cell? ⟨g, k, none⟩ = cur.toList[k]? := by simp [World.cell?, hg, hk]

set_option maxHeartbeats 4000000 in
set_option maxRecDepth 100000 in
theorem insert_end (B : Nat) (a0 : Option Addr) (n c0 : Nat) (es : List LEnt) (x : LEnt) (vb : Nat) (w : World) (hn : n = es.length) (hbd : n ≤ 1000000) (hB : B ≤ w.heap.size) (hown : OwnEnts w B (.slice a0 n c0) es)
    (hvb : w.heap[vb]? = some (.cells #[.string x.name, .int .i64 x.id] 53 (0, 0))) :
    Calls Tryz.prog 227 #[.slice a0 n c0, .int .i64 n, .slice (some ⟨vb, 0, none⟩) 1 1] w fun e w' => InsEnd w B (.slice a0 n c0) (n + 1) (es ++ [x]) e w' := by
  have HV : Hid (∀ j u, (entCells [x])[j]? = some u → w.cell? ((⟨vb, 0, none⟩ : Addr).add j) = some u) := vb_cells hvb
  have HN : Hid (n = es.length) := hn
  have hnc : n ≤ c0 ∧ c0 ≤ maxLen := by
    rcases hown.2 with ⟨h', h0⟩ | ⟨g', cap', cur, h', hb, hg, hnc, hcm, hcs, htake⟩
    · simp at h'; unfold maxLen; omega
    · simp at h'; omega
  obtain ⟨hnc, hcm⟩ := hnc
  unfold maxLen at hcm
  clear hn hvb
  by_cases hcn : n = c0
  · subst hcn
    go_enter Tryz.func227, Tryz.ntmps227
    go_wp2_with (first
      | (at_builtin; refine wpList_app_one _ rfl (.tmp 23) (.tmp 24) rfl B n n a0 es x ⟨vb, 0, none⟩ 1 rfl rfl HN.out hown hB hbd HV.out ?_)
      | go_in)
    intro a' c' w1 hp
    have HP : Hid (InsPost w w1 B (.slice a0 n n) (.slice a' (n + 1) c') (es ++ [x])) := hp
    clear hp
    go_wp2_with fail
    go_ret
    exact ⟨a', c', rfl, HP.out⟩
  · have hcn' : ¬ (c0 = n) := fun h => hcn h.symm
    go_enter Tryz.func227, Tryz.ntmps227
    go_wp2_with (first
      | (at_builtin; refine wpList_app_one _ rfl (.tmp 23) (.tmp 24) rfl B n c0 a0 es x ⟨vb, 0, none⟩ 1 rfl rfl HN.out hown hB hbd HV.out ?_)
      | go_in)
    intro a' c' w1 hp
    have HP : Hid (InsPost w w1 B (.slice a0 n c0) (.slice a' (n + 1) c') (es ++ [x])) := hp
    clear hp
    go_wp2_with fail
    go_ret
    exact ⟨a', c', rfl, HP.out⟩

set_option maxHeartbeats 4000000 in
set_option maxRecDepth 100000 in
theorem insert_room (B g n cap i : Nat) (es : List LEnt) (x : LEnt) (vb : Nat) (w : World) (hn : n = es.length) (hi : i < n) (hbd : n ≤ 1000000) (hroom : n + 1 ≤ cap) (hown : OwnEnts w B (.slice (some ⟨g, 0, none⟩) n cap) es)
    (hvb : w.heap[vb]? = some (.cells #[.string x.name, .int .i64 x.id] 53 (0, 0))) (hne : vb ≠ g) :
    Calls Tryz.prog 227 #[.slice (some ⟨g, 0, none⟩) n cap, .int .i64 i, .slice (some ⟨vb, 0, none⟩) 1 1] w fun e w' => InsEnd w B (.slice (some ⟨g, 0, none⟩) n cap) (n + 1) (es.take i ++ [x] ++ es.drop i) e w' := by
  obtain ⟨cur, hBg, hg, -, hnc, hcm, hcs, htake⟩ := hown.open_
  obtain ⟨i0, hi0, hz0, hz1, hz2⟩ := info_parts info47'
  have hsz : (Tryz.prog.info? 53).map (·.size) = some 2 := by rw [hi0]; simp [hz1]
  have hzs : ∀ w, (Go.sizeOf 53).run Tryz.prog w = .ok 2 w := fun w => by simp [sizeOf, typeInfo, hi0, hz1]
  have hov : ∀ lb cb, (callFunc 228 #[.slice (some ⟨vb, 0, none⟩) 1 1, .slice (some ⟨g, (i + 1) * 2, none⟩) lb cb]).run Tryz.prog w = .ok (.value (.bool false)) w := fun lb cb => by
    rw [run_callFunc_extern Tryz.func228 (by kernel_rfl) (by kernel_rfl) (by kernel_rfl) (e := Extern.SlicesOverlaps.overlaps #[36, 36] #[4]) (by kernel_rfl),
      Lib.run_overlaps_apart w 36 4 53 Tryz.underlying36 2 hzs ⟨vb, 0, none⟩ ⟨g, (i + 1) * 2, none⟩ 1 1 lb cb hne 53 53 2 (cap * 2) (by simp [World.shape?, hvb]) (by simp [World.shape?, hg, hcs]) (by omega) (by simp [World.frozen?, hvb]) (by simp [World.frozen?, hvb])]
    rfl
  have HB : Hid (B ≤ g) := hBg
  have HOW : Hid (OwnEnts w B (.slice (some ⟨g, 0, none⟩) n cap) es) := hown
  have HG : Hid (w.heap[g]? = some (.cells cur 53 (0, 0)) ∧ cur.size = cap * 2 ∧ cur.toList.take (n * 2) = entCells es ∧ n = es.length) := ⟨hg, hcs, htake, hn⟩
  obtain ⟨W1, hW1⟩ : ∃ W1 : World, W1 = w.drew.setRow g (splice cur.toList ((i + 1) * 2) ((entCells es).drop (i * 2))).toArray := ⟨_, rfl⟩
  have hEl : (entCells es).length = n * 2 := by rw [entCells_len, hn]
  have hcp1 : ∀ ty dl dc sl sc, dl = n - i → sl = n + 1 - i → (Builtin.copy_ #[36, 36] ty #[.slice (some ⟨g, (i + 1) * 2, none⟩) dl dc, .slice (some ⟨g, i * 2, none⟩) sl sc]).run Tryz.prog w.drew = .ok (goInt (Nat.min sl dl)) W1 := fun ty dl dc sl sc h1 h2 => by
    subst h1 h2
    rw [hW1]
    refine run_copy_row2 w.drew 36 36 ty 53 g ((i + 1) * 2) (n - i) dc ⟨g, i * 2, none⟩ (n + 1 - i) sc cur 53 ((entCells es).drop (i * 2)) Tryz.underlying36 hsz hg ?_ (fun j v hj => ?_) ?_ (fun v hv => entCells_one es v (List.mem_of_mem_drop hv))
    · rw [List.length_drop, hEl]; simp only [Nat.min_def]; split <;> omega
    · rw [add_plain', List.getElem?_drop] at *
      have hlt := (List.getElem?_eq_some_iff.1 hj).1
      rw [← htake] at hj
      rw [List.getElem?_take] at hj
      rw [World.cell?_drew, getRow hg _ (by omega)]
      split at hj
      · exact hj
      · cases hj
    · rw [List.length_drop, hEl, hcs]; omega
  have hg1 : W1.heap[g]? = some (.cells (splice cur.toList ((i + 1) * 2) ((entCells es).drop (i * 2))).toArray 53 (0, 0)) := by
    rw [hW1]; exact setRow_heap w.drew g cur _ 53 (0, 0) hg
  have hv1 : W1.heap[vb]? = some (.cells #[.string x.name, .int .i64 x.id] 53 (0, 0)) := by
    rw [hW1, setRow_other _ _ _ _ hne]; exact hvb
  have hL1 : (splice cur.toList ((i + 1) * 2) ((entCells es).drop (i * 2))).length = cap * 2 := by rw [splice_len _ _ _ (by rw [List.length_drop, hEl]; simp [hcs]; omega)]; simp [hcs]
  obtain ⟨W2, hW2⟩ : ∃ W2 : World, W2 = W1.setRow g (splice (splice cur.toList ((i + 1) * 2) ((entCells es).drop (i * 2))) (i * 2) [.string x.name, .int .i64 x.id]).toArray := ⟨_, rfl⟩
  have hcp2 : ∀ ty dl dc, dl = n + 1 - i → (Builtin.copy_ #[36, 36] ty #[.slice (some ⟨g, i * 2, none⟩) dl dc, .slice (some ⟨vb, 0, none⟩) 1 1]).run Tryz.prog W1 = .ok (goInt (Nat.min 1 dl)) W2 := fun ty dl dc h1 => by
    subst h1
    rw [hW2]
    refine run_copy_row2 W1 36 36 ty 53 g (i * 2) (n + 1 - i) dc ⟨vb, 0, none⟩ 1 1 _ 53 [.string x.name, .int .i64 x.id] Tryz.underlying36 hsz hg1 ?_ (fun j v hj => vb_cells hv1 j v (by simpa [entCells] using hj)) ?_ (fun v hv => by simp at hv; rcases hv with rfl | rfl <;> rfl)
    · simp only [List.length_cons, List.length_nil, Nat.min_def]; split <;> omega
    · show i * 2 + 2 ≤ (splice cur.toList ((i + 1) * 2) ((entCells es).drop (i * 2))).toArray.size
      rw [List.size_toArray, hL1]; omega
  have HPOST : Hid (InsPost w W2 B (.slice (some ⟨g, 0, none⟩) n cap) (.slice (some ⟨g, 0, none⟩) (n + 1) cap) (es.take i ++ [x] ++ es.drop i)) := by
    refine ⟨OwnEnts.mk_ hBg (by rw [hW2]; exact setRow_heap W1 g _ _ 53 (0, 0) hg1) (by simp; omega) hroom hcm ?_ ?_, ?_, fun g' h' => .inl h'⟩
    · simp only [List.size_toArray]
      rw [splice_len _ _ _ (by rw [hL1]; simp; omega), hL1]
    · rw [List.toList_toArray, ← entCells_ins, show (n + 1) * 2 = (entCells es).length + 2 by rw [hEl]; omega]
      rw [show (i + 1) * 2 = i * 2 + 2 by omega]
      refine splice_shift cur.toList (entCells es) (i * 2) _ _ (by rw [hEl]; omega) (by rw [hEl]; simp [hcs]; omega) (by rw [hEl]; exact htake)
    · rw [hW2, hW1]
      exact setRow_grown (setRow_grown (w0 := w) (w := w.drew) ⟨rfl, rfl, rfl, Nat.le_refl _, fun _ _ _ => rfl⟩ (.inl rfl)) (.inl rfl)
  clear hW1 hW2 hg1 hv1 hL1 hg hcs htake hown hvb hBg hEl hn
  unfold maxLen at hcm
  have hw1 : IntKind.i64.wrap ((i : Int) + 1) = (i : Int) + 1 := by rw [IntKind.wrap_i64]; omega
  have hb1 : (0 : Int) ≤ (i : Int) + 1 := by omega
  have hi0' : (0 : Int) ≤ (i : Int) := by omega
  have hin : (i : Int) ≤ (n : Int) := by omega
  have htn : ((i : Int) + 1).toNat = i + 1 := by omega
  have hb2 : ¬ (cap = i + 1) := by omega
  have hb3 : (i : Int) ≤ (n : Int) + 1 := by omega
  have hb4 : ¬ (cap = i) := by omega
  have hz2' : ¬ ((i : Int) = (n : Int)) := by omega
  go_enter Tryz.func227, Tryz.ntmps227
  go_wp2_with (simp only [hov])
  refine wp_region_held_drew (S := (fun _ : World => True)) (by kernel_rfl) ?_ (fun hHeld => ?_)
  · trivial
  refine listH (l2 := #[false, false, false, false, false, false, false, false, false]) (by kernel_rfl) ?_
  refine takeH (i := 0) (oi := _) (v := ?vt1x0) 69 #[true, false, false, false, false, false, false, false, false] rfl (by kernel_rfl) (by kernel_rfl) (by kernel_rfl) rfl (by kernel_rfl) (fun _ _ _ h => h) (Or.inl ⟨by rfl, ?yt1x0⟩) (by assumption) ?rt1x0
  case yt1x0 => (intro w' hSw; (try dsimp only at hSw); go_simp; try with_reducible rfl)
  simp only [Act.put, List.setIfInBounds_toArray, List.set_cons_succ, List.set_cons_zero]
  refine takeH (i := 1) (oi := _) (v := ?vt1x1) 70 #[true, true, false, false, false, false, false, false, false] rfl (by kernel_rfl) (by kernel_rfl) (by kernel_rfl) rfl (by kernel_rfl) (fun _ _ _ h => h) (Or.inl ⟨by rfl, ?yt1x1⟩) (by assumption) ?rt1x1
  case yt1x1 => (intro w' hSw; (try dsimp only at hSw); go_simp; try with_reducible rfl)
  simp only [Act.put, List.setIfInBounds_toArray, List.set_cons_succ, List.set_cons_zero]
  refine takeH (i := 2) (oi := _) (v := ?vt1x2) 71 #[true, true, true, false, false, false, false, false, false] rfl (by kernel_rfl) (by kernel_rfl) (by kernel_rfl) rfl (by kernel_rfl) (fun _ _ _ h => h) (Or.inl ⟨by rfl, ?yt1x2⟩) (by assumption) ?rt1x2
  case yt1x2 => (intro w' hSw; (try dsimp only at hSw); go_simp; try with_reducible rfl)
  simp only [Act.put, List.setIfInBounds_toArray, List.set_cons_succ, List.set_cons_zero]
  refine takeH (i := 3) (oi := _) (v := ?vt1x3) 72 #[true, true, true, true, false, false, false, false, false] rfl (by kernel_rfl) (by kernel_rfl) (by kernel_rfl) rfl (by kernel_rfl) (fun _ _ _ h => h) (Or.inl ⟨by rfl, ?yt1x3⟩) (by assumption) ?rt1x3
  case yt1x3 => (intro w' hSw; (try dsimp only at hSw); go_simp; try with_reducible rfl)
  simp only [Act.put, List.setIfInBounds_toArray, List.set_cons_succ, List.set_cons_zero]
  refine takeH (i := 4) (oi := _) (v := ?vt1x4) 73 #[true, true, true, true, true, false, false, false, false] rfl (by kernel_rfl) (by kernel_rfl) (by kernel_rfl) rfl (by kernel_rfl) (fun _ _ _ h => h) (Or.inl ⟨by rfl, ?yt1x4⟩) (by assumption) ?rt1x4
  case yt1x4 => (intro w' hSw; (try dsimp only at hSw); go_simp; try with_reducible rfl)
  simp only [Act.put, List.setIfInBounds_toArray, List.set_cons_succ, List.set_cons_zero]
  refine takeH (i := 5) (oi := _) (v := ?vt1x5) 74 #[true, true, true, true, true, true, false, false, false] rfl (by kernel_rfl) (by kernel_rfl) (by kernel_rfl) rfl (by kernel_rfl) (fun _ _ _ h => h) (Or.inl ⟨by rfl, ?yt1x5⟩) (by assumption) ?rt1x5
  case yt1x5 => (intro w' hSw; (try dsimp only at hSw); go_simp; try with_reducible rfl)
  simp only [Act.put, List.setIfInBounds_toArray, List.set_cons_succ, List.set_cons_zero]
  refine takeH (i := 6) (oi := _) (v := ?vt1x6) 75 #[true, true, true, true, true, true, true, false, false] rfl (by kernel_rfl) (by kernel_rfl) (by kernel_rfl) rfl (by kernel_rfl) (fun _ _ _ h => h) (Or.inl ⟨by rfl, ?yt1x6⟩) (by assumption) ?rt1x6
  case yt1x6 => (intro w' hSw; (try dsimp only at hSw); go_simp; try with_reducible rfl)
  simp only [Act.put, List.setIfInBounds_toArray, List.set_cons_succ, List.set_cons_zero]
  refine takeH (i := 7) (oi := _) (v := ?vt1x7) 76 #[true, true, true, true, true, true, true, true, false] rfl (by kernel_rfl) (by kernel_rfl) (by kernel_rfl) rfl (by kernel_rfl) (fun _ _ _ h => h) (Or.inl ⟨by rfl, ?yt1x7⟩) (by assumption) ?rt1x7
  case yt1x7 => (intro w' hSw; (try dsimp only at hSw); go_simp; try with_reducible rfl)
  simp only [Act.put, List.setIfInBounds_toArray, List.set_cons_succ, List.set_cons_zero]
  refine wpAnyH_ready (rs := [8]) (by kernel_rfl) (by simp) ?_
  refine AllReadyH.cons (o := _) rfl (fun K hK => ?_) AllReadyH.nil
  refine wp_copy_run' _ (.tmp 73) (.tmp 76) 36 36 rfl _ _ rfl rfl (hcp1 _ _ _ _ _ (by omega) (by omega)) ?_
  refine hK.out _ _ ?_ (fun hHeld => ?_)
  · trivial
  clear hK K
  try simp only [Act.put]
  refine listH (l2 := #[true, true, true, true, true, true, true, true, true]) (by kernel_rfl) ?_
  refine wpAnyH_done (by kernel_rfl) ?_ _

  go_wp2_with (at_builtin; refine wpList_copy_run' _ rfl _ _ 36 36 rfl _ _ rfl rfl (hcp2 _ _ _ (by omega)) ?_)
  go_ret
  exact ⟨_, _, rfl, HPOST.out⟩

theorem zc_size (k : Nat) : (Builtin.zeroCells (Value.agg #[.string ⟨#[]⟩, .int .i64 0]).cells k).size = k * 2 := by simp [Builtin.zeroCells, Value.cells]
set_option maxHeartbeats 4000000 in
set_option maxRecDepth 100000 in
theorem insert_grow (B g n cap i : Nat) (es : List LEnt) (x : LEnt) (vb : Nat) (w : World) (hn : n = es.length) (hi : i < n) (hbd : n ≤ 1000000) (hroom : cap < n + 1) (hB : B ≤ w.heap.size) (hown : OwnEnts w B (.slice (some ⟨g, 0, none⟩) n cap) es)
    (hvb : w.heap[vb]? = some (.cells #[.string x.name, .int .i64 x.id] 53 (0, 0))) :
    Calls Tryz.prog 227 #[.slice (some ⟨g, 0, none⟩) n cap, .int .i64 i, .slice (some ⟨vb, 0, none⟩) 1 1] w fun e w' => InsEnd w B (.slice (some ⟨g, 0, none⟩) n cap) (n + 1) (es.take i ++ [x] ++ es.drop i) e w' := by
  obtain ⟨cur, hBg, hg, -, hnc, hcm, hcs, htake⟩ := hown.open_
  obtain ⟨i0, hi0, hz0, hz1, hz2⟩ := info_parts info47'
  have hsz : (Tryz.prog.info? 53).map (·.size) = some 2 := by rw [hi0]; simp [hz1]
  have hEl : (entCells es).length = n * 2 := by rw [entCells_len, hn]
  have hgl : g < w.heap.size := (Array.getElem?_eq_some_iff.1 hg).1
  have hvl : vb < w.heap.size := (Array.getElem?_eq_some_iff.1 hvb).1
  have hat : ∀ j v, (entCells es)[j]? = some v → w.cell? ⟨g, j, none⟩ = some v := fun j v hj => by
    have hlt := (List.getElem?_eq_some_iff.1 hj).1
    rw [← htake, List.getElem?_take] at hj
    rw [getRow hg _ (by omega)]
    split at hj
    · exact hj
    · cases hj
  have hold : (Builtin.firstCells i0.size i (.slice (some ⟨g, 0, none⟩) i cap)).run Tryz.prog w.drew = .ok ((entCells es).take (i * 2)).toArray w.drew := by
    rw [hz1]
    exact run_firstCells_some w.drew 2 i ⟨g, 0, none⟩ i cap ((entCells es).take (i * 2)) (by rw [List.length_take, hEl]; omega) (fun j v hj => by
      rw [add_plain', Nat.zero_add, World.cell?_drew]
      rw [List.getElem?_take] at hj
      split at hj
      · exact hat j v hj
      · cases hj)
  have hkk : (n : Int) + 1 - (i : Int) = ((n + 1 - i : Nat) : Int) := by omega
  have hik : i + (n + 1 - i) = n + 1 := by omega
  obtain ⟨G, hG⟩ : ∃ G, G = grownCap w (n + 1) cap 53 := ⟨_, rfl⟩
  obtain ⟨ROW, hROW⟩ : ∃ ROW : Array Value, ROW = ((entCells es).take (i * 2)).toArray ++ Builtin.zeroCells (Value.agg #[.string ⟨#[]⟩, .int .i64 0]).cells (n + 1 - i) ++ Builtin.zeroCells (Value.agg #[.string ⟨#[]⟩, .int .i64 0]).cells (G - (n + 1)) := ⟨_, rfl⟩
  obtain ⟨W1, hW1⟩ : ∃ W1 : World, W1 = w.drew.alloc (.cells ROW 53) := ⟨_, rfl⟩
  have hrz : ∀ ty, (Builtin.append_ #[36, 3] ty #[.slice (some ⟨g, 0, none⟩) i cap, .int .i64 ((n + 1 - i : Nat) : Int)]).run Tryz.prog w = .ok (.slice (some ⟨w.heap.size, 0, none⟩) (n + 1) G) W1 := fun ty => by
    have h := Lib.run_append_grow_zeros w 36 3 ty 53 i0 _ .i64 .i64 Tryz.underlying36 Tryz.underlying3 hi0 hz0 (some ⟨g, 0, none⟩) i cap _ hold (n + 1 - i) (by omega) (by omega) (by omega) (by omega) (by rw [hz2]; omega) (by rw [hz2, hik]; exact growslice_fits hroom (by omega))
    rw [hik] at h
    rw [hW1, hROW, hG]
    exact h
  have hGn : n + 1 ≤ G := by rw [hG]; exact grownCap_ge w _ _ _
  have hGm : G ≤ maxLen := by rw [hG]; exact grownCap_le_maxLen w (n + 1) cap 53 (by unfold maxLen; omega)
  have hRs : ROW.toList.length = G * 2 := by
    rw [hROW]
    simp only [Array.length_toList, Array.size_append, List.size_toArray, zc_size, List.length_take, hEl]
    omega
  have hRt : ROW.toList.take (i * 2) = (entCells es).take (i * 2) := by
    rw [hROW]
    simp only [Array.toList_append, List.append_assoc]
    rw [List.take_left' (by simp [hEl]; omega)]
  have hg1 : W1.heap[w.heap.size]? = some (.cells ROW 53 (0, 0)) := by rw [hW1]; exact heap_alloc_new w.drew _
  have hv1 : W1.heap[vb]? = some (.cells #[.string x.name, .int .i64 x.id] 53 (0, 0)) := by
    rw [hW1, (World.grownBy_alloc w.drew (.cells ROW 53) none).block vb hvl (by simp)]; exact hvb
  obtain ⟨R2, hR2⟩ : ∃ R2 : List Value, R2 = splice ROW.toList (i * 2) [.string x.name, .int .i64 x.id] := ⟨_, rfl⟩
  have hR2l : R2.length = G * 2 := by rw [hR2, splice_len _ _ _ (by rw [hRs]; simp; omega), hRs]
  obtain ⟨W2, hW2⟩ : ∃ W2 : World, W2 = W1.setRow w.heap.size R2.toArray := ⟨_, rfl⟩
  have hcpA : ∀ ty dl dc, dl = n + 1 - i → (Builtin.copy_ #[36, 36] ty #[.slice (some ⟨w.heap.size, i * 2, none⟩) dl dc, .slice (some ⟨vb, 0, none⟩) 1 1]).run Tryz.prog W1 = .ok (goInt (Nat.min 1 dl)) W2 := fun ty dl dc h1 => by
    subst h1
    rw [hW2, hR2]
    refine run_copy_row2 W1 36 36 ty 53 w.heap.size (i * 2) (n + 1 - i) dc ⟨vb, 0, none⟩ 1 1 ROW 53 [.string x.name, .int .i64 x.id] Tryz.underlying36 hsz hg1 ?_ (fun j v hj => vb_cells hv1 j v (by simpa [entCells] using hj)) ?_ (fun v hv => by simp at hv; rcases hv with rfl | rfl <;> rfl)
    · simp only [List.length_cons, List.length_nil, Nat.min_def]; split <;> omega
    · rw [← Array.length_toList, hRs]; simp; omega
  have hg2 : W2.heap[w.heap.size]? = some (.cells R2.toArray 53 (0, 0)) := by rw [hW2]; exact setRow_heap W1 _ ROW _ 53 (0, 0) hg1
  have hgo : ∀ k, W2.cell? ⟨g, k, none⟩ = w.cell? ⟨g, k, none⟩ := fun k => World.cell?_of_block (w := w) (by
    show W2.heap[g]? = w.heap[g]?
    rw [hW2, setRow_other _ _ _ _ (by omega), hW1, (World.grownBy_alloc w.drew (.cells ROW 53) none).block g hgl (by simp)]; rfl)
  obtain ⟨W3, hW3⟩ : ∃ W3 : World, W3 = W2.drew.setRow w.heap.size (splice R2 ((i + 1) * 2) ((entCells es).drop (i * 2))).toArray := ⟨_, rfl⟩
  have hcpB : ∀ ty dl dc sl sc, dl = n - i → sl = n - i → (Builtin.copy_ #[36, 36] ty #[.slice (some ⟨w.heap.size, (i + 1) * 2, none⟩) dl dc, .slice (some ⟨g, i * 2, none⟩) sl sc]).run Tryz.prog W2.drew = .ok (goInt (Nat.min sl dl)) W3 := fun ty dl dc sl sc h1 h2 => by
    subst h1 h2
    rw [hW3]
    refine run_copy_row2 W2.drew 36 36 ty 53 w.heap.size ((i + 1) * 2) (n - i) dc ⟨g, i * 2, none⟩ (n - i) sc R2.toArray 53 ((entCells es).drop (i * 2)) Tryz.underlying36 hsz hg2 ?_ (fun j v hj => ?_) ?_ (fun v hv => entCells_one es v (List.mem_of_mem_drop hv))
    · rw [List.length_drop, hEl]; simp only [Nat.min_def]; split <;> omega
    · rw [add_plain', World.cell?_drew, hgo]
      rw [List.getElem?_drop] at hj
      exact hat _ v hj
    · rw [List.size_toArray, hR2l, List.length_drop, hEl]; omega
  have HPOST : Hid (InsPost w W3 B (.slice (some ⟨g, 0, none⟩) n cap) (.slice (some ⟨w.heap.size, 0, none⟩) (n + 1) G) (es.take i ++ [x] ++ es.drop i)) := by
    refine ⟨OwnEnts.mk_ hB (by rw [hW3]; exact setRow_heap W2.drew _ _ _ 53 (0, 0) hg2) (by simp; omega) hGn hGm ?_ ?_, ?_, fun g' h' => .inr (by simp [Value.ownBlock] at h'; omega)⟩
    · rw [List.size_toArray, splice_len _ _ _ (by rw [hR2l, List.length_drop, hEl]; omega), hR2l]
    · rw [List.toList_toArray, ← entCells_ins, show (n + 1) * 2 = (entCells es).length + 2 by rw [hEl]; omega, hR2, show (i + 1) * 2 = i * 2 + 2 by omega]
      exact splice_new ROW.toList (entCells es) (i * 2) _ _ (by rw [hEl]; omega) (by rw [hEl, hRs]; omega) hRt
    · rw [hW3, hW2, hW1]
      refine setRow_grown (w0 := w) (w := World.drew _) ?_ (.inr (Nat.le_refl _))
      have h1 := setRow_grown (w0 := w) (w := w.drew.alloc (.cells ROW 53)) (g := w.heap.size) (c := R2.toArray) (row := some g) ⟨rfl, rfl, rfl, by simp, fun k hk hne => (World.grownBy_alloc w.drew _ (some g)).block k hk hne⟩ (.inr (Nat.le_refl _))
      exact ⟨h1.os, h1.tape, h1.output, h1.size, h1.block⟩
  clear hW1 hW2 hW3 hg1 hg2 hv1 hg hcs htake hown hvb hBg hEl hn hRs hRt hR2 hR2l hG hROW hold hat hgo hgl hvl
  unfold maxLen at hcm hGm
  have hw1 : IntKind.i64.wrap ((i : Int) + 1) = (i : Int) + 1 := by rw [IntKind.wrap_i64]; omega
  have hb1 : (0 : Int) ≤ (i : Int) + 1 := by omega
  have hi0' : (0 : Int) ≤ (i : Int) := by omega
  have hin : (i : Int) ≤ (n : Int) := by omega
  have hic : (i : Int) ≤ (cap : Int) := by omega
  have htn : ((i : Int) + 1).toNat = i + 1 := by omega
  have hb2 : ¬ (cap = i + 1) ∨ cap = i + 1 := by omega
  have hb3 : (i : Int) ≤ (n : Int) + 1 := by omega
  have hb4 : ¬ (cap = i) := by omega
  have hb5 : ¬ (G = i) := by omega
  have hb6 : ¬ (G = i + 1) := by omega
  have hz2' : ¬ ((i : Int) = (n : Int)) := by omega
  have hz3 : (cap : Int) < (n : Int) + 1 := by omega
  clear hb2
  go_enter Tryz.func227, Tryz.ntmps227
  go_wp2_with (first
    | (at_builtin; refine Lib.wpList_append_run _ rfl _ _ 36 3 rfl _ _ rfl rfl _ _ (hrz _) ?_)
    | (at_builtin; refine wpList_copy_run' _ rfl _ _ 36 36 rfl _ _ rfl rfl (hcpA _ _ _ (by omega)) ?_))
  refine wp_region_held_drew (S := (fun _ : World => True)) (by kernel_rfl) ?_ (fun hHeld => ?_)
  · trivial
  refine listH (l2 := #[false, false, false, false, false, false, false, false, false]) (by kernel_rfl) ?_
  refine takeH (i := 0) (oi := _) (v := ?vt2x0) 46 #[true, false, false, false, false, false, false, false, false] rfl (by kernel_rfl) (by kernel_rfl) (by kernel_rfl) rfl (by kernel_rfl) (fun _ _ _ h => h) (Or.inl ⟨by rfl, ?yt2x0⟩) (by assumption) ?rt2x0
  case yt2x0 => (intro w' hSw; (try dsimp only at hSw); go_simp; try with_reducible rfl)
  simp only [Act.put, List.setIfInBounds_toArray, List.set_cons_succ, List.set_cons_zero]
  refine takeH (i := 1) (oi := _) (v := ?vt2x1) 47 #[true, true, false, false, false, false, false, false, false] rfl (by kernel_rfl) (by kernel_rfl) (by kernel_rfl) rfl (by kernel_rfl) (fun _ _ _ h => h) (Or.inl ⟨by rfl, ?yt2x1⟩) (by assumption) ?rt2x1
  case yt2x1 => (intro w' hSw; (try dsimp only at hSw); go_simp; try with_reducible rfl)
  simp only [Act.put, List.setIfInBounds_toArray, List.set_cons_succ, List.set_cons_zero]
  refine takeH (i := 2) (oi := _) (v := ?vt2x2) 48 #[true, true, true, false, false, false, false, false, false] rfl (by kernel_rfl) (by kernel_rfl) (by kernel_rfl) rfl (by kernel_rfl) (fun _ _ _ h => h) (Or.inl ⟨by rfl, ?yt2x2⟩) (by assumption) ?rt2x2
  case yt2x2 => (intro w' hSw; (try dsimp only at hSw); go_simp; try with_reducible rfl)
  simp only [Act.put, List.setIfInBounds_toArray, List.set_cons_succ, List.set_cons_zero]
  refine takeH (i := 3) (oi := _) (v := ?vt2x3) 49 #[true, true, true, true, false, false, false, false, false] rfl (by kernel_rfl) (by kernel_rfl) (by kernel_rfl) rfl (by kernel_rfl) (fun _ _ _ h => h) (Or.inl ⟨by rfl, ?yt2x3⟩) (by assumption) ?rt2x3
  case yt2x3 => (intro w' hSw; (try dsimp only at hSw); go_simp; try with_reducible rfl)
  simp only [Act.put, List.setIfInBounds_toArray, List.set_cons_succ, List.set_cons_zero]
  refine takeH (i := 4) (oi := _) (v := ?vt2x4) 50 #[true, true, true, true, true, false, false, false, false] rfl (by kernel_rfl) (by kernel_rfl) (by kernel_rfl) rfl (by kernel_rfl) (fun _ _ _ h => h) (Or.inl ⟨by rfl, ?yt2x4⟩) (by assumption) ?rt2x4
  case yt2x4 => (intro w' hSw; (try dsimp only at hSw); go_simp; try with_reducible rfl)
  simp only [Act.put, List.setIfInBounds_toArray, List.set_cons_succ, List.set_cons_zero]
  refine takeH (i := 5) (oi := _) (v := ?vt2x5) 51 #[true, true, true, true, true, true, false, false, false] rfl (by kernel_rfl) (by kernel_rfl) (by kernel_rfl) rfl (by kernel_rfl) (fun _ _ _ h => h) (Or.inl ⟨by rfl, ?yt2x5⟩) (by assumption) ?rt2x5
  case yt2x5 => (intro w' hSw; (try dsimp only at hSw); go_simp; try with_reducible rfl)
  simp only [Act.put, List.setIfInBounds_toArray, List.set_cons_succ, List.set_cons_zero]
  refine takeH (i := 6) (oi := _) (v := ?vt2x6) 52 #[true, true, true, true, true, true, true, false, false] rfl (by kernel_rfl) (by kernel_rfl) (by kernel_rfl) rfl (by kernel_rfl) (fun _ _ _ h => h) (Or.inl ⟨by rfl, ?yt2x6⟩) (by assumption) ?rt2x6
  case yt2x6 => (intro w' hSw; (try dsimp only at hSw); go_simp; try with_reducible rfl)
  simp only [Act.put, List.setIfInBounds_toArray, List.set_cons_succ, List.set_cons_zero]
  refine takeH (i := 7) (oi := _) (v := ?vt2x7) 53 #[true, true, true, true, true, true, true, true, false] rfl (by kernel_rfl) (by kernel_rfl) (by kernel_rfl) rfl (by kernel_rfl) (fun _ _ _ h => h) (Or.inl ⟨by rfl, ?yt2x7⟩) (by assumption) ?rt2x7
  case yt2x7 => (intro w' hSw; (try dsimp only at hSw); go_simp; try with_reducible rfl)
  simp only [Act.put, List.setIfInBounds_toArray, List.set_cons_succ, List.set_cons_zero]
  refine wpAnyH_ready (rs := [8]) (by kernel_rfl) (by simp) ?_
  refine AllReadyH.cons (o := _) rfl (fun K hK => ?_) AllReadyH.nil
  refine wp_copy_run' _ (.tmp 50) (.tmp 53) 36 36 rfl _ _ rfl rfl (hcpB _ _ _ _ _ (by omega) (by omega)) ?_
  refine hK.out _ _ ?_ (fun hHeld => ?_)
  · trivial
  clear hK K
  try simp only [Act.put]
  refine listH (l2 := #[true, true, true, true, true, true, true, true, true]) (by kernel_rfl) ?_
  refine wpAnyH_done (by kernel_rfl) ?_ _

  go_wp2_with fail
  go_ret
  exact ⟨_, _, rfl, HPOST.out⟩

theorem insert_any (B : Nat) (a0 : Option Addr) (n c0 i : Nat) (es : List LEnt) (x : LEnt) (vb : Nat) (w : World) (hn : n = es.length) (hi : i ≤ n) (hbd : n ≤ 1000000) (hB : B ≤ w.heap.size) (hown : OwnEnts w B (.slice a0 n c0) es)
    (hvb : w.heap[vb]? = some (.cells #[.string x.name, .int .i64 x.id] 53 (0, 0))) (hne : (Value.slice a0 n c0).ownBlock ≠ some vb) :
    Calls Tryz.prog 227 #[.slice a0 n c0, .int .i64 i, .slice (some ⟨vb, 0, none⟩) 1 1] w fun e w' => InsEnd w B (.slice a0 n c0) (n + 1) (es.take i ++ [x] ++ es.drop i) e w' := by
  by_cases h : i = n
  · subst h
    have := insert_end B a0 i c0 es x vb w hn hbd hB hown hvb
    rwa [List.take_of_length_le (by omega), List.drop_of_length_le (by omega), List.append_nil]
  · rcases hown.2 with ⟨h', h0⟩ | ⟨g', cap', cur, h', hb, hg, hnc, hcm, hcs, htake⟩
    · omega
    · simp only [Value.slice.injEq] at h'
      obtain ⟨rfl, -, rfl⟩ := h'
      by_cases hr : n + 1 ≤ c0
      · exact insert_room B g' n c0 i es x vb w hn (by omega) hbd hr hown hvb (fun e => hne (by simp [Value.ownBlock, e]))
      · exact insert_grow B g' n c0 i es x vb w hn (by omega) hbd (by omega) hB hown hvb
end Go.Proofs.YtnolbfijcnldjaaGreatDoor
