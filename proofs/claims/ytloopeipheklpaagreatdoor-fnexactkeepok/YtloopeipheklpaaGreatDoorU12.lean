/- Lemmas that the proofs of this seat share: CloneA, InsA. -/
import Derived.Test.YtloopeipheklpaaGreatDoorU11
import Derived.Test.YtloopeipheklpaaGreatDoorU06
import Derived.Deep.Upon
import Derived.Laws.CopyRow
import Derived.Lib.AppendZerosOnto
import Derived.Lib.Overlaps
import Derived.Test.YtloopeipheklpaaGreatDoorU11
/- A copy of objects, and of names, of the call's own. -/
namespace Go.Proofs.YtloopeipheklpaaGreatDoor
open Go.RowKit

theorem OwnT.base' {w : World} {B B' b c : Nat} {os : List LObj} {vs : Nat → Value} (h : OwnT w B b c os vs) (hB : B' ≤ B) : OwnT w B' b c os vs :=
  ⟨by have := h.lo; omega, h.row, fun i o ho => by
    obtain ⟨h1, h2, h3, h4, h5, h6, h7⟩ := h.at_ i o ho
    refine ⟨h1, h2, h3, h4, h5, ⟨h6.1, ?_⟩, h7⟩
    rcases h6.2 with h | ⟨g, cap, cur, q1, q2, q3⟩
    · exact .inl h
    · exact .inr ⟨g, cap, cur, q1, by omega, q3⟩, h.apart⟩

/-- What an append of names onto nothing leaves. -/
def NewEnts (w w' : World) (B : Nat) (v : Value) (es : List LEnt) : Prop := OwnEnts w' B v es ∧ w.grownBy w' none ∧ (v.ownBlock = none ∨ v.ownBlock = some w.heap.size)
theorem run_app_new (w : World) (ty : TypeId) (B m c : Nat) (ka : Option Addr) (es : List LEnt) (hm : m = es.length) (hB : B ≤ w.heap.size) (hbd : m ≤ 1048576)
    (hsrc : m ≠ 0 → ∃ ad, ka = some ad ∧ ∀ j u, (entCells es)[j]? = some u → w.cell? (ad.add j) = some u) :
    ∃ a' c' w', (Builtin.append_ #[163, 163] ty #[.slice none 0 0, .slice ka m c]).run Tryz.prog w = .ok (.slice a' m c') w' ∧ NewEnts w w' B (.slice a' m c') es := by
  obtain ⟨i0, hi, hz0, hz1, hz2⟩ := info_parts info47'
  by_cases h0 : m = 0
  · subst h0
    obtain rfl : es = [] := List.eq_nil_of_length_eq_zero hm.symm
    have hs : Src Tryz.prog i0.size 163 (.slice ka 0 c) 0 [] w := by
      cases ka with
      | none => exact Src.ofNil w Tryz.underlying163 c
      | some ad => exact Src.ofSlice w Tryz.underlying163 ad 0 c [] (by simp) (fun j u hu => by simp at hu) (fun u hu => by simp at hu)
    exact ⟨none, 0, w, run_append_nothing (P := Tryz.prog) w 163 163 ty 247 i0 Tryz.underlying163 hi none 0 0 (Nat.le_refl _) _ hs, OwnEnts.bare w B, World.grownBy.refl w none, .inl rfl⟩
  · obtain ⟨ad, rfl, hc⟩ := hsrc h0
    obtain ⟨v', w', hr, h2, h3, h4, h5⟩ := run_append_own_at (P := Tryz.prog) w B 163 ty 247 i0 _ 2 24 Tryz.underlying163 hi hz0 hz1 hz2 rfl (by decide) _ _ _ (OwnEnts.bare w B) ad m c (entCells es) (by rw [entCells_len, hm]) hc (entCells_one _) (by unfold maxLen; simp; omega) (by simp; omega) hB
    have h2' := h2
    rcases h2.2 with ⟨hv, _⟩ | ⟨g', cap', cur, rfl, hb, hg, _⟩
    · exact absurd (h4.1 hv).2 h0
    · have h5' : g' = w.heap.size := by simpa [Value.ownBlock] using h5
      simp only [List.length_nil, Nat.zero_add] at hr h2'
      refine ⟨_, _, _, hr, ?_, by simpa [Value.ownBlock] using h3, .inr (by simp [Value.ownBlock, h5'])⟩
      unfold OwnEnts
      rw [← hm]
      simpa [entCells] using h2'
theorem wpList_app_new (w : World) {ops : Array Oper} {rest : List Oper} {o : Oper} {a : Act} {Q : Exit → Act → World → Prop} (hgd : o.guard = none) (s x : Operand)
    (ho : o.op = .call { callee := .builtin .append, args := #[s, x], argTypes := #[163, 163] }) (B m c : Nat) (ka : Option Addr) (es : List LEnt) (hs : a.eval s = .slice none 0 0) (hx : a.eval x = .slice ka m c) (hm : m = es.length) (hB : B ≤ w.heap.size) (hbd : m ≤ 1048576)
    (hsrc : m ≠ 0 → ∃ ad, ka = some ad ∧ ∀ j u, (entCells es)[j]? = some u → w.cell? (ad.add j) = some u)
    (h : ∀ a' c' w', NewEnts w w' B (.slice a' m c') es → wpList Tryz.prog ops Q rest (a.put o.dst (.slice a' m c')) w') : wpList Tryz.prog ops Q (o :: rest) a w :=
  wpList_plain hgd fun _ hK => by
    obtain ⟨a', c', w', hr, h2⟩ := run_app_new w o.type B m c ka es hm hB hbd hsrc
    unfold Oper.wp execOp
    simp only [ho, resolve, invoke, builtin, Sem.run_bind, Sem.run_pure, Result.andThen_ok, List.map_toArray, List.map_cons, List.map_nil, hs, hx, hr]
    exact hK _ _ (h a' c' w' h2)

theorem objCells_one (os : List LObj) (vs : Nat → Value) (h : ∀ i, (vs i).oneCell' = true) : ∀ k, ∀ u ∈ objCells os vs k, u.oneCell' = true
  | 0, u, hu => by simp [objCells] at hu
  | k + 1, u, hu => by
    simp only [objCells, List.mem_append] at hu
    rcases hu with hu | hu
    · exact objCells_one os vs h k u hu
    · cases ho : os[k]? with
      | none => simp [ho] at hu
      | some o =>
        simp [ho] at hu
        rcases hu with rfl | rfl | rfl | rfl
        · rfl
        · rfl
        · rfl
        · exact h k
theorem objCells_get (os : List LObj) (vs : Nat → Value) (k j : Nat) (u : Value) (hk : k ≤ os.length) (h : (objCells os vs k)[j]? = some u) : ∃ i o, os[i]? = some o ∧ i < k ∧ ((j = i * 4 ∧ u = .int .i64 o.kind) ∨ (j = i * 4 + 1 ∧ u = .int .i64 o.ver) ∨ (j = i * 4 + 2 ∧ u = .string o.text) ∨ (j = i * 4 + 3 ∧ u = vs i)) := by
  have hl := (List.getElem?_eq_some_iff.1 h).1
  rw [objCells_len os vs k hk] at hl
  have hi : j / 4 < k := by omega
  have ho : os[j / 4]? = some (os[j / 4]'(by omega)) := by simp [show j / 4 < os.length by omega]
  obtain ⟨h0, h1, h2, h3⟩ := objCells_at os vs k hk (j / 4) _ hi ho
  refine ⟨j / 4, _, ho, hi, ?_⟩
  have hr : j % 4 = 0 ∨ j % 4 = 1 ∨ j % 4 = 2 ∨ j % 4 = 3 := by omega
  rcases hr with hr | hr | hr | hr
  · have e : j = j / 4 * 4 := by omega
    rw [← e, h] at h0
    exact .inl ⟨e, by simpa using h0⟩
  · have e : j = j / 4 * 4 + 1 := by omega
    rw [← e, h] at h1
    exact .inr (.inl ⟨e, by simpa using h1⟩)
  · have e : j = j / 4 * 4 + 2 := by omega
    rw [← e, h] at h2
    exact .inr (.inr (.inl ⟨e, by simpa using h2⟩))
  · have e : j = j / 4 * 4 + 3 := by omega
    rw [← e, h] at h3
    exact .inr (.inr (.inr ⟨e, by simpa using h3⟩))

/-- What the names of the objects are, as values. -/
structure KidsV (w : World) (L U : Nat) (os : List LObj) (ks : Nat → Value) : Prop where
  one : ∀ i, (ks i).oneCell' = true
  at_ : ∀ i o, os[i]? = some o → o.text.size ≤ maxLen ∧ ∃ ka kc, ks i = .slice ka o.kids.length kc ∧ EntsAt w L U ka o.kids.length o.kids
theorem ks_of {w : World} {L U n : Nat} {a : Option Addr} {os : List LObj} (H : ObjsAt w L U a n os) (hn : n ≠ 0) : ∃ b off ks, a = some ⟨b, off, none⟩ ∧ L ≤ b ∧ b < U ∧ (∀ j u, (objCells os ks n)[j]? = some u → w.cell? ((⟨b, off, none⟩ : Addr).add j) = some u) ∧ KidsV w L U os ks := by
  obtain ⟨b, off, ha, hL, hU, hc⟩ := H.at_ hn
  obtain ⟨l, hl, hp⟩ := list_of (n := n) (p := fun i (v : Value) => ∃ o ka kc, os[i]? = some o ∧ v = .slice ka o.kids.length kc ∧ o.text.size ≤ maxLen ∧ w.cell? ⟨b, off + i * 4, none⟩ = some (.int .i64 o.kind) ∧ w.cell? ⟨b, off + i * 4 + 1, none⟩ = some (.int .i64 o.ver) ∧ w.cell? ⟨b, off + i * 4 + 2, none⟩ = some (.string o.text) ∧ w.cell? ⟨b, off + i * 4 + 3, none⟩ = some v ∧ EntsAt w L U ka o.kids.length o.kids) (fun i hi => by
    obtain ⟨o, ka, kn, kc, q1, q2, q3, q4, q5, q6, q7⟩ := hc i hi
    have hk := q7.len
    subst hk
    exact ⟨_, o, ka, kc, q1, rfl, q2, q3, q4, q5, q6, q7⟩)
  have hlen := H.len
  refine ⟨b, off, fun i => (l[i]?).getD (.slice none 0 0), ha, hL, hU, fun j u hu => ?_, fun i => ?_, fun i o ho => ?_⟩
  · obtain ⟨i, o, ho, hi, h⟩ := objCells_get os _ n j u (by omega) hu
    obtain ⟨v, hv, o', ka, kc, q1, q2, q3, q4, q5, q6, q7, q8⟩ := hp i hi
    rw [ho] at q1
    cases q1
    have hadd : (⟨b, off, none⟩ : Addr).add j = ⟨b, off + j, none⟩ := by unfold Addr.add; split <;> simp_all
    rw [hadd]
    rcases h with ⟨rfl, rfl⟩ | ⟨rfl, rfl⟩ | ⟨rfl, rfl⟩ | ⟨rfl, rfl⟩
    · exact q4
    · exact q5
    · exact q6
    · simpa [hv, Nat.add_assoc] using q7
  · by_cases hi : i < n
    · obtain ⟨v, hv, o', ka, kc, q1, rfl, _⟩ := hp i hi
      simp [hv, Value.oneCell']
    · have : l[i]? = none := by simp [hl]; omega
      simp [this, Value.oneCell']
  · have hi : i < n := by rw [hlen]; exact (List.getElem?_eq_some_iff.1 ho).1
    obtain ⟨v, hv, o', ka, kc, q1, rfl, q3, q4, q5, q6, q7, q8⟩ := hp i hi
    rw [ho] at q1
    cases q1
    exact ⟨q3, ka, kc, by simp [hv], q8⟩

def CloneEnd (w : World) (n : Nat) (xs : List Value) (e : Ending) (w' : World) : Prop := (∃ g cap, e = .returned (.slice (some ⟨g, 0, none⟩) n cap) ∧ w'.ownsRow w.heap.size 165 4 (.slice (some ⟨g, 0, none⟩) n cap) n xs) ∧ Below w.heap.size w w'
set_option maxRecDepth 100000 in
theorem copy_objs (b off n c : Nat) (os : List LObj) (ks : Nat → Value) (w : World) (hn : n = os.length) (h0 : 0 < n) (hbd : n ≤ 1048576) (hk1 : ∀ i, (ks i).oneCell' = true) (hc : ∀ j u, (objCells os ks n)[j]? = some u → w.cell? ((⟨b, off, none⟩ : Addr).add j) = some u) :
    Calls Tryz.prog 219 #[.slice (some ⟨b, off, none⟩) n c] w fun e w' => CloneEnd w n (objCells os ks n) e w' := by
  obtain ⟨i0, hi, hq0, hq1, hq2⟩ := info_parts info34'
  have HL : Hid ((objCells os ks n).length = n * 4) := objCells_len os ks n (by omega)
  have H1 : Hid (∀ u ∈ objCells os ks n, u.oneCell' = true) := objCells_one os ks hk1 n
  have HC : Hid (∀ j u, (objCells os ks n)[j]? = some u → w.cell? ((⟨b, off, none⟩ : Addr).add j) = some u) := hc
  clear hc hn
  go_enter Tryz.func219, Tryz.ntmps219
  go_wp2_with (first
    | (at_builtin; refine wpList_append_lies _ rfl (.const (.slice none 0 0)) (.tmp 3) 24 rfl w.heap.size 165 i0 _ 4 56 Tryz.underlying24 hi hq0 hq1 hq2 rfl (by decide) _ 0 [] rfl (World.ownsRow_nil _ _ _ _) ⟨b, off, none⟩ n c (objCells os ks n) rfl HL.out ?c1 H1.out h0 ?c4 ?c5 ?c6 _ rfl ?_)
    | go_in)
  case c1 => exact fun j u hu => HC.out j u hu
  case c4 => unfold maxLen; omega
  case c5 => omega
  case c6 => simp
  intro g cap w1 hown hgrow hat hlt
  have hbel : Below w.heap.size w w1 := below_grown (Below.refl _ _) hgrow (fun k hk => by simp [Value.ownBlock] at hk) (Nat.le_refl _)
  have hown' : Hid (w1.ownsRow w.heap.size 165 4 (.slice (some ⟨g, 0, none⟩) n cap) n (objCells os ks n)) := by show World.ownsRow _ _ _ _ _ _ _; simpa using hown
  clear hown hgrow hat hlt
  go_wp2_with fail
  go_ret
  exact ⟨⟨g, cap, by simp, hown'.out⟩, hbel⟩
theorem copy_ents (B : Nat) (ka : Option Addr) (m c : Nat) (es : List LEnt) (L U : Nat) (w : World) (hB : B ≤ w.heap.size) (hbd : m ≤ 1048576) (H : EntsAt w L U ka m es) :
    Calls Tryz.prog 220 #[.slice ka m c] w fun e w' => ∃ a' c', e = .returned (.slice a' m c') ∧ NewEnts w w' B (.slice a' m c') es := by
  have HE : Hid (EntsAt w L U ka m es) := H
  have hm := H.len
  have HM : Hid (m = es.length) := hm
  clear H hm
  go_enter Tryz.func220, Tryz.ntmps220
  go_wp2_with (first
    | (at_builtin; refine wpList_app_new _ rfl (.const (.slice none 0 0)) (.tmp 3) rfl B _ _ _ es rfl rfl HM.out hB hbd ?c2 ?_)
    | go_in)
  case c2 =>
    intro hne
    obtain ⟨kb, koff, rfl, _, _, hkc⟩ := HE.out.at_ hne
    exact ⟨_, rfl, ents_cells HM.out hkc⟩
  intro a' c' w2 hnew
  have HN : Hid (NewEnts w w2 B (.slice a' m c') es) := hnew
  clear hnew
  go_wp2_with fail
  go_ret
  exact ⟨a', c', rfl, HN.out⟩
end Go.Proofs.YtloopeipheklpaaGreatDoor

/- Rows of names that are spliced: copy of elements of two cells; the plain lists. -/
namespace Go.Proofs.YtloopeipheklpaaGreatDoor
open Go.RowKit

def splice (l : List Value) (o : Nat) (cs : List Value) : List Value := l.take o ++ cs ++ l.drop (o + cs.length)
theorem splice_len (l : List Value) (o : Nat) (cs : List Value) (h : o + cs.length ≤ l.length) : (splice l o cs).length = l.length := by
  simp [splice]; omega
theorem splice_get (l : List Value) (o : Nat) (cs : List Value) (h : o + cs.length ≤ l.length) (j : Nat) : (splice l o cs)[j]? = if j < o then l[j]? else if j < o + cs.length then cs[j - o]? else l[j]? := by
  have h1 : min o l.length = o := by omega
  unfold splice
  by_cases ha : j < o
  · rw [List.append_assoc, List.getElem?_append_left (by simp; omega), if_pos ha, List.getElem?_take, if_pos ha]
  · rw [if_neg ha]
    by_cases hb : j < o + cs.length
    · rw [if_pos hb, List.append_assoc, List.getElem?_append_right (by simp; omega), List.getElem?_append_left (by simp; omega)]
      simp [h1]
    · rw [if_neg hb, List.getElem?_append_right (by simp; omega), List.getElem?_drop]
      congr 1
      simp [h1]
      omega
/-- Shifted up by two, and two put in. -/
theorem splice_shift (l E : List Value) (p : Nat) (u v : Value) (hp : p ≤ E.length) (hl : E.length + 2 ≤ l.length) (hE : l.take E.length = E) :
    (splice (splice l (p + 2) (E.drop p)) p [u, v]).take (E.length + 2) = E.take p ++ [u, v] ++ E.drop p := by
  have hget : ∀ j, j < E.length → l[j]? = E[j]? := fun j hj => by rw [← hE]; simp [hj]
  apply List.ext_getElem?
  intro j
  rw [List.getElem?_take]
  by_cases h0 : j < E.length + 2
  · rw [if_pos h0, splice_get _ _ _ (by rw [splice_len _ _ _ (by simp; omega)]; simp; omega), splice_get _ _ _ (by simp; omega)]
    by_cases h1 : j < p
    · rw [if_pos h1, if_pos (by omega), List.append_assoc, List.getElem?_append_left (by simp; omega), List.getElem?_take, if_pos h1]
      exact hget j (by omega)
    · rw [if_neg h1]
      by_cases h2 : j < p + 2
      · rw [if_pos (by simpa using h2), List.append_assoc, List.getElem?_append_right (by simp; omega), List.getElem?_append_left (by simp; omega)]
        simp [show min p E.length = p by omega]
      · rw [if_neg (by simpa using h2), if_neg h2, if_pos (by simp; omega), List.getElem?_append_right (by simp; omega)]
        congr 1
        simp [show min p E.length = p by omega]
  · rw [if_neg h0]
    symm
    apply List.getElem?_eq_none
    simp; omega
/-- A new row: what was ahead, two, what was behind. -/
theorem splice_new (l E : List Value) (p : Nat) (u v : Value) (hp : p ≤ E.length) (hl : E.length + 2 ≤ l.length) (hE : l.take p = E.take p) :
    (splice (splice l p [u, v]) (p + 2) (E.drop p)).take (E.length + 2) = E.take p ++ [u, v] ++ E.drop p := by
  have hget : ∀ j, j < p → l[j]? = E[j]? := fun j hj => by
    have h1 : (l.take p)[j]? = (E.take p)[j]? := by rw [hE]
    simpa [List.getElem?_take, hj] using h1
  apply List.ext_getElem?
  intro j
  rw [List.getElem?_take]
  by_cases h0 : j < E.length + 2
  · rw [if_pos h0, splice_get _ _ _ (by rw [splice_len _ _ _ (by simp; omega)]; simp; omega), splice_get _ _ _ (by simp; omega)]
    by_cases h1 : j < p
    · rw [if_pos (by omega), if_pos h1, List.append_assoc, List.getElem?_append_left (by simp; omega), List.getElem?_take, if_pos h1]
      exact hget j (by omega)
    · by_cases h2 : j < p + 2
      · rw [if_pos h2, if_neg h1, if_pos (by simpa using h2), List.append_assoc, List.getElem?_append_right (by simp; omega), List.getElem?_append_left (by simp; omega)]
        simp [show min p E.length = p by omega]
      · rw [if_neg h2, if_pos (by simp; omega), List.getElem?_append_right (by simp; omega)]
        congr 1
        simp [show min p E.length = p by omega]
  · rw [if_neg h0]
    symm
    apply List.getElem?_eq_none
    simp; omega

theorem entCells_take (es : List LEnt) (k : Nat) : (entCells es).take (k * 2) = entCells (es.take k) := by
  by_cases hk : k ≤ es.length
  · have e1 : entCells es = entCells (es.take k) ++ entCells (es.drop k) := by rw [← entCells_app, List.take_append_drop]
    rw [e1, List.take_left' (by rw [entCells_len]; simp; omega)]
  · rw [List.take_of_length_le (by rw [entCells_len]; omega), List.take_of_length_le (by omega)]
theorem entCells_drop (es : List LEnt) (k : Nat) : (entCells es).drop (k * 2) = entCells (es.drop k) := by
  by_cases hk : k ≤ es.length
  · have e1 : entCells es = entCells (es.take k) ++ entCells (es.drop k) := by rw [← entCells_app, List.take_append_drop]
    rw [e1, List.drop_left' (by rw [entCells_len]; simp; omega)]
  · rw [List.drop_of_length_le (by rw [entCells_len]; omega), List.drop_of_length_le (by omega)]
    rfl
theorem entCells_ins (es : List LEnt) (k : Nat) (x : LEnt) : (entCells es).take (k * 2) ++ [.string x.name, .int .i64 x.id] ++ (entCells es).drop (k * 2) = entCells (es.take k ++ [x] ++ es.drop k) := by
  rw [entCells_take, entCells_drop, entCells_app, entCells_app]
  simp [entCells]

theorem run_copy_row2 {P : Program} (w : World) (dT sT ty elem : TypeId) (g o dLen dCap : Nat) (a : Addr) (sLen sCap : Nat) (cur : Array Value) (t : TypeId) (cs : List Value)
    (hu : P.underlying dT = some (.slice elem)) (hs : (P.info? elem).map (·.size) = some 2)
    (hg : w.heap[g]? = some (.cells cur t (0, 0))) (hn : cs.length = Nat.min sLen dLen * 2)
    (hsrc : ∀ j v, cs[j]? = some v → w.cell? (a.add j) = some v) (hfit : o + cs.length ≤ cur.size) (h1 : ∀ v ∈ cs, v.oneCell' = true) :
    (Builtin.copy_ #[dT, sT] ty #[.slice (some ⟨g, o, none⟩) dLen dCap, .slice (some a) sLen sCap]).run P w =
      .ok (goInt (Nat.min sLen dLen)) (w.setRow g (splice cur.toList o cs).toArray) := by
  have hl := run_loadCells_list (P := P) w a cs hsrc
  have hst := run_storeCells_at P g o t cs 0 cur w hg (by simpa using hfit) h1
  cases hq : P.info? elem with
  | none => simp [hq] at hs
  | some i =>
    have hi : i.size = 2 := by simpa [hq] using hs
    simp [Builtin.copy_, run_underlying hu, Builtin.lenOf, Builtin.firstCells, sizeOf, typeInfo, hq, hi, ← hn, hl, hst, splice]
theorem wp_copy_run' {P : Program} (w : World) {o : Oper} {a : Act} {K : Act → World → Prop} {Q : Exit → Act → World → Prop} (d s : Operand) (t t' : TypeId)
    (ho : o.op = .call { callee := .builtin .copy, args := #[d, s], argTypes := #[t, t'] }) (v u : Value) (hd : a.eval d = v) (hs : a.eval s = u) {v' : Value} {w' : World}
    (hr : (Builtin.copy_ #[t, t'] o.type #[v, u]).run P w = .ok v' w') (h : K (a.put o.dst v') w') : o.wp P a w K Q := by
  unfold Oper.wp execOp
  simp only [ho, resolve, invoke, builtin, Sem.run_bind, Sem.run_pure, Result.andThen_ok, List.map_toArray, List.map_cons, List.map_nil, hd, hs, hr]
  exact h
theorem wpList_copy_run' {P : Program} (w : World) {ops : Array Oper} {rest : List Oper} {o : Oper} {a : Act} {Q : Exit → Act → World → Prop} (hgd : o.guard = none) (d s : Operand) (t t' : TypeId)
    (ho : o.op = .call { callee := .builtin .copy, args := #[d, s], argTypes := #[t, t'] }) (v u : Value) (hd : a.eval d = v) (hs : a.eval s = u) {v' : Value} {w' : World}
    (hr : (Builtin.copy_ #[t, t'] o.type #[v, u]).run P w = .ok v' w') (h : wpList P ops Q rest (a.put o.dst v') w') : wpList P ops Q (o :: rest) a w :=
  wpList_plain hgd fun _ hK => wp_copy_run' w d s t t' ho v u hd hs hr (hK _ _ h)

theorem setRow_grown {w0 w : World} {g : Nat} {c : Array Value} {row : Option Nat} (h : w0.grownBy w row) (hg : row = some g ∨ w0.heap.size ≤ g) : w0.grownBy (w.setRow g c) row :=
  ⟨h.os, h.tape, h.output, by simpa using h.size, fun k hk hne => by
    rw [setRow_other w g k c (by rcases hg with rfl | hg <;> intro e <;> subst e <;> simp_all <;> omega)]
    exact h.block k hk hne⟩

/-- A row of one's own, its block laid open. -/
theorem OwnEnts.open_ {w : World} {B g n cap : Nat} {es : List LEnt} (h : OwnEnts w B (.slice (some ⟨g, 0, none⟩) n cap) es) : ∃ cur, B ≤ g ∧ w.heap[g]? = some (.cells cur 247 (0, 0)) ∧ n = es.length ∧ n ≤ cap ∧ cap ≤ maxLen ∧ cur.size = cap * 2 ∧ cur.toList.take (n * 2) = entCells es := by
  rcases h.2 with ⟨h', _⟩ | ⟨g', cap', cur, h', hb, hg, hnc, hcm, hcs, htake⟩
  · simp at h'
  · simp only [Value.slice.injEq, Option.some.injEq, Addr.mk.injEq, and_true] at h'
    obtain ⟨rfl, rfl, rfl⟩ := h'
    exact ⟨cur, hb, hg, rfl, hnc, hcm, hcs, htake⟩
theorem OwnEnts.mk_ {w : World} {B g n cap : Nat} {es : List LEnt} {cur : Array Value} (hB : B ≤ g) (hg : w.heap[g]? = some (.cells cur 247 (0, 0))) (hn : n = es.length) (hnc : n ≤ cap) (hcm : cap ≤ maxLen) (hcs : cur.size = cap * 2) (ht : cur.toList.take (n * 2) = entCells es) : OwnEnts w B (.slice (some ⟨g, 0, none⟩) n cap) es := by
  subst hn
  exact ⟨by rw [entCells_len], .inr ⟨g, cap, cur, rfl, hB, hg, hnc, hcm, hcs, ht⟩⟩

/-! The place of a name. -/
def PlaceEnd (es : List LEnt) (name : ByteArray) (e : Ending) : Prop := ∃ (x : Nat) (b : Bool), e = .returned (.tuple #[.int .i64 x, .bool b]) ∧ x ≤ es.length ∧ Low es name x ∧ High es name x
theorem placeL_of {es : List LEnt} {name : ByteArray} {x : Nat} (hx : x ≤ es.length) (hl : Low es name x) (hh : High es name x) : placeL name es = x := by
  induction es generalizing x with
  | nil => simp at hx; subst hx; rfl
  | cons e r ih =>
    by_cases h0 : x = 0
    · subst h0
      have h := hh 0 (Nat.le_refl _) e rfl
      have hn : lessN name e = false := by
        rw [Bool.eq_false_iff]
        intro h1
        unfold lessN at h1
        rw [Go.ByteArray.toList_eq, Go.ByteArray.toList_eq] at h1
        exact h ((cmp_less _ _).2 h1)
      simp [placeL, hn]
    · obtain ⟨y, rfl⟩ : ∃ y, x = y + 1 := ⟨x - 1, by omega⟩
      have h := hl 0 (by omega) e rfl
      have hn : lessN name e = true := by
        unfold lessN
        rw [Go.ByteArray.toList_eq, Go.ByteArray.toList_eq]
        exact (cmp_less _ _).1 h
      have h2 := ih (x := y) (by simpa using hx) (fun i hi e' he => hl (i + 1) (by omega) e' (by simpa using he)) (fun i hi e' he => hh (i + 1) (by omega) e' (by simpa using he))
      simp only [placeL] at h2 ⊢
      simp [hn, h2]
theorem putL_of {es : List LEnt} {x : LEnt} {k : Nat} (hk : k ≤ es.length) (hl : Low es x.name k) (hh : High es x.name k) : putL x es = es.take k ++ [x] ++ es.drop k := by
  unfold putL; rw [placeL_of hk hl hh]
/-- The name that is there is at its place. -/
theorem place_there {es : List LEnt} {name : ByteArray} {x k : Nat} {e : LEnt} (ha : Asc es) (hl : Low es name x) (hh : High es name x) (hk : es[k]? = some e) (hn : e.name = name) : x = k := by
  have hz : ¬ Lib.compareBytes (nm e) name.data.toList < 0 := by
    rw [cmp_less, ← hn]
    intro h
    exact absurd (show Op.bytesLess e.name.data.toList e.name.data.toList = true from h) (by rw [less_self]; simp)
  rcases Nat.lt_trichotomy x k with h | h | h
  · obtain ⟨y, hy⟩ : ∃ y, es[x]? = some y := ⟨es[x]'(by have := (List.getElem?_eq_some_iff.1 hk).1; omega), by simp⟩
    have h1 := ha x k y e h hy hk
    have h2 := hh x (Nat.le_refl _) y hy
    rw [cmp_less, ← hn] at h2
    exact absurd h1 h2
  · exact h
  · exact absurd (hl k h e hk) hz
theorem outL_of {es : List LEnt} {name : ByteArray} {k : Nat} {e : LEnt} (ha : Asc es) (hk : es[k]? = some e) (hn : e.name = name) : outL name es = es.take k ++ es.drop (k + 1) := by
  have hlt := (List.getElem?_eq_some_iff.1 hk).1
  have hne : ∀ i y, es[i]? = some y → i ≠ k → (y.name.toList == name.toList) = false := fun i y hy hik => by
    rw [Go.ByteArray.toList_eq, Go.ByteArray.toList_eq, ← hn]
    rcases Nat.lt_or_gt_of_ne hik with h | h
    · have h1 := ha i k y e h hy hk
      rw [beq_eq_false_iff_ne]
      intro h2
      rw [show nm y = nm e from h2, less_self] at h1
      cases h1
    · have h1 := ha k i e y h hk hy
      rw [beq_eq_false_iff_ne]
      intro h2
      rw [show nm y = nm e from h2, less_self] at h1
      cases h1
  have hsp : es = es.take k ++ e :: es.drop (k + 1) := by
    have h1 : es = es.take k ++ es.drop k := (List.take_append_drop k es).symm
    have h2 : es.drop k = e :: es.drop (k + 1) := by
      rw [List.drop_eq_getElem_cons hlt]
      congr 1
      simpa [hlt] using hk
    rw [← h2]; exact h1
  have hl : outL name (es.take k) = es.take k := List.filter_eq_self.2 fun y hy => by
    obtain ⟨i, hi, rfl⟩ := List.getElem_of_mem hy
    have hi' : i < k := by simp at hi; omega
    have := hne i (es.take k)[i] (by simp [show i < es.length by omega]) (by omega)
    simpa using this
  have hr : outL name (es.drop (k + 1)) = es.drop (k + 1) := List.filter_eq_self.2 fun y hy => by
    obtain ⟨i, hi, rfl⟩ := List.getElem_of_mem hy
    have hi' : k + 1 + i < es.length := by simp at hi; omega
    have := hne (k + 1 + i) (es.drop (k + 1))[i] (by simp [hi']) (by omega)
    simpa using this
  have hm : (e.name.toList == name.toList) = true := by rw [hn]; simp
  calc outL name es = outL name (es.take k ++ e :: es.drop (k + 1)) := by rw [← hsp]
    _ = outL name (es.take k) ++ outL name (e :: es.drop (k + 1)) := by simp [outL, List.filter_append]
    _ = outL name (es.take k) ++ outL name (es.drop (k + 1)) := by
      congr 1
      simp [outL, hm]
    _ = _ := by rw [hl, hr]
end Go.Proofs.YtloopeipheklpaaGreatDoor
