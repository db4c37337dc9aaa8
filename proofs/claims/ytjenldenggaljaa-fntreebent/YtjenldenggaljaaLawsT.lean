import Derived.Test.YtjenldenggaljaaDrawn
import Derived.Test.YtjenldenggaljaaFacts2
/- The walk of the law FnTreeUnder. -/
namespace Go.Proofs.Ytjenldenggaljaa
open Go.RowKit

/-- In the midst of a law: the box of the tree, and the tree. -/
structure LSt (w W : World) (T b n c : Nat) (os : List LObj) : Prop where
  below : Below w.heap.size w W
  t : W.cell? ⟨T, 0, none⟩ = some (.slice (some ⟨b, 0, none⟩) n c)
  lo : w.heap.size ≤ T
  lt : T < W.heap.size
  tree : ObjsAt W w.heap.size T (some ⟨b, 0, none⟩) n os
  le : n ≤ 32
  bn : Bn os
theorem LSt.next {w W W' : World} {T b n c : Nat} {os : List LObj} (h : LSt w W T b n c os) (hb : Below W.heap.size W W') : LSt w W' T b n c os := by
  have h1 := h.lt
  have h2 := h.lo
  exact ⟨h.below.trans (hb.mono (by omega)), by rw [hb.cell (by simpa using h1)]; exact h.t, h2, by have := hb.size; omega, h.tree.below hb (by omega), h.le, h.bn⟩
theorem LSt.start {w W : World} {b n c : Nat} {os : List LObj} (hT : TreeIn w W b n os) (hb : Below w.heap.size w W) : LSt w (W.alloc (Obj.cells #[.slice (some ⟨b, 0, none⟩) n c] 25)) W.heap.size b n c os :=
  ⟨hb.alloc hb.size _, by simp [go_sem], hb.size, by simp, hT.at_.below ((Below.refl _ _).alloc (Nat.le_refl _) _) (Nat.le_refl _), hT.le, hT.bn⟩
theorem LSt.drew {w W : World} {T b n c : Nat} {os : List LObj} (h : LSt w W T b n c os) : LSt w W.drew T b n c os := h.next (Below.refl _ _).drew

set_option maxHeartbeats 4000000 in
set_option maxRecDepth 20000 in
theorem walkTreeUnder (a : Option Addr) (n c : Nat) (zs : List Int) (w : World) (hc : n ≤ c) (hcb : n ≤ maxLen) (H : BytesAt w w.heap.size a n zs) :
    Calls Try.prog 5 #[.slice a n c] w fun e w' => e = .returned (.bool true) ∧ Below w.heap.size w w' := by
  unfold maxLen at hcb
  by_cases hbig : 1048576 < n
  · go_enter Try.func5, Try.ntmps5
    go_wp2_with fail
    go_ret
    exact ⟨rfl, Below.refl _ _⟩
  go_enter Try.func5, Try.ntmps5
  go_wp2_with fail
  refine (drawUnder a n c zs w (by omega) hc H).mono ?_
  rintro e W1 ⟨⟨b, k, c2, os, x, y, rfl, hT⟩, hb1⟩
  have S1 := LSt.start (c := c2) hT hb1
  clear hT hb1 H
  go_wp2_with fail
  generalize hTq : W1.heap.size = T at *
  generalize hW2 : W1.alloc (Obj.cells #[.slice (some ⟨b, 0, none⟩) k c2] 25) = W2 at *
  clear hW2 hTq
  have hbd := S1.bn.sizes
  refine (implUnder _ _ _ _ w.heap.size T x y _ (by have := S1.lt; omega) S1.tree).mono ?_
  rintro e W3 ⟨rfl, hb3⟩
  have S3 := S1.next hb3
  have q3 := S3.t
  clear S1 hb3
  go_wp2_with fail
  refine (specUnder _ _ _ _ w.heap.size T x y _ hbd (by have := S3.lt; omega) S3.tree).mono ?_
  rintro e W4 ⟨rfl, hb4⟩
  have S4 := S3.next hb4
  have q4 := S4.t
  clear S3 hb4 q3
  cases hu : underV os x y
  · have HU : Hid (underV os x y = false) := hu
    clear hu
    go_wp2_with fail
    refine (specTreeOk _ _ _ _ w.heap.size T _ hbd (by have := S4.lt; omega) S4.tree).mono ?_
    rintro e W5 ⟨rfl, hb5⟩
    have S5 := S4.next hb5
    have q5 := S5.t
    clear S4 hb5 q4
    cases hs : specOk os
    · clear hs
      go_wp2_with fail
      go_ret
      exact ⟨rfl, S5.below⟩
    · clear hs
      go_wp2_with fail
      go_loopg [7] 32 (fun g i wr => ∃ j : Nat, j ≤ 32 ∧ Hid (g = 32 - j) ∧ i = .int .i64 j ∧ Hid (LSt w wr T b k c2 os))
      case atStart => exact ⟨0, by omega, rfl, rfl, S5⟩
      case round =>
        obtain ⟨j, hj, hg, rfl, HS⟩ := hrel
        by_cases hlt : j < 32
        · have hltI : (j : Int) < 32 := by omega
          go_wp2_with fail
          go_roundg (32 - (j + 1))
          case measure => have := hg.out; omega
          case rel => exact ⟨j + 1, by omega, rfl, by go_num, HS⟩
        · have hltI : ¬ (j : Int) < 32 := by omega
          go_wp2_with fail
          go_ret
          exact ⟨rfl, HS.out.below⟩
  · have HU : Hid (underV os x y = true) := hu
    have HOK : Hid (specOk os = true) := (underV_true hu).1
    clear hu
    go_wp2_with fail
    refine (specTreeOk _ _ _ _ w.heap.size T _ hbd (by have := S4.lt; omega) S4.tree).mono ?_
    rintro e W5 ⟨rfl, hb5⟩
    have S5 := S4.next hb5
    have q5 := S5.t
    clear S4 hb5 q4
    rw [HOK.out]
    go_wp2_with fail
    go_loopg [7] 32 (fun g i wr => ∃ j : Nat, j ≤ 32 ∧ Hid (g = 32 - j) ∧ i = .int .i64 j ∧ Hid (LSt w wr T b k c2 os))
    case atStart => exact ⟨0, by omega, rfl, rfl, S5⟩
    case round =>
      obtain ⟨j, hj, hg, rfl, HS⟩ := hrel
      have q6 := HS.out.t
      have hz6 := HS.out.lt
      by_cases hlt : j < 32
      · have hltI : (j : Int) < 32 := by omega
        cases hv : underV os y j
        · have HV : Hid (underV os y j = false) := hv
          clear hv
          go_wp2_with (go_at_call 29; refine (implUnder _ _ _ _ w.heap.size T _ _ _ (by have := HS.out.lt; omega) HS.out.tree).mono ?_; rintro e W7 ⟨rfl, hb7⟩; rw [HV.out])
          have S7 := HS.out.next hb7
          go_roundg (32 - (j + 1))
          case measure => have := hg.out; omega
          case rel => exact ⟨j + 1, by omega, rfl, by go_num, S7⟩
        · have HV : Hid (underV os y j = true) := hv
          have HV2 : Hid (underV os x j = true) := underV_trans HU.out hv
          clear hv
          go_wp2_with fail
          refine (implUnder _ _ _ _ w.heap.size T _ _ _ (by have := HS.out.lt; omega) HS.out.tree).mono ?_
          rintro e W7 ⟨rfl, hb7⟩
          rw [HV.out]
          have S7 := HS.out.next hb7
          have q7 := S7.t
          go_wp2_with fail
          refine (implUnder _ _ _ _ w.heap.size T _ _ _ (by have := S7.lt; omega) S7.tree).mono ?_
          rintro e W8 ⟨rfl, hb8⟩
          rw [HV2.out]
          have S8 := S7.next hb8
          go_wp2_with fail
          go_roundg (32 - (j + 1))
          case measure => have := hg.out; omega
          case rel => exact ⟨j + 1, by omega, rfl, by go_num, S8⟩
      · have hltI : ¬ (j : Int) < 32 := by omega
        cases hv : underV os y x
        · have HV : Hid (underV os y x = false) := hv
          clear hv
          go_wp2_with (go_at_call 29; refine (implUnder _ _ _ _ w.heap.size T _ _ _ (by have := HS.out.lt; omega) HS.out.tree).mono ?_; rintro e W7 ⟨rfl, hb7⟩; rw [HV.out])
          go_ret
          exact ⟨rfl, (HS.out.next hb7).below⟩
        · have HV : Hid (underV os y x = true) := hv
          have hxy : (x == y) = true := by simp [underV_anti HU.out hv]
          clear hv
          go_wp2_with (go_at_call 29; refine (implUnder _ _ _ _ w.heap.size T _ _ _ (by have := HS.out.lt; omega) HS.out.tree).mono ?_; rintro e W7 ⟨rfl, hb7⟩; rw [HV.out])
          go_ret
          exact ⟨rfl, (HS.out.next hb7).below⟩
end Go.Proofs.Ytjenldenggaljaa

/- The walk of the law FnTreeHome. -/
namespace Go.Proofs.Ytjenldenggaljaa
open Go.RowKit

/-- An object of the tree: its cells. -/
theorem LSt.obj {w W : World} {T b n c d : Nat} {os : List LObj} {o : LObj} (h : LSt w W T b n c os) (ho : os[d]? = some o) (hd : d < n) :
    ∃ ka kc, W.cell? ⟨b, d * 4, none⟩ = some (.int .i64 o.kind) ∧ W.cell? ⟨b, d * 4 + 3, none⟩ = some (.slice ka o.kids.length kc) ∧ EntsAt W w.heap.size T ka o.kids.length o.kids ∧ b < T := by
  obtain ⟨b0, o0, ha0, hL0, hU0, hcell⟩ := h.tree.at_ (by omega)
  obtain ⟨rfl, rfl⟩ : b = b0 ∧ 0 = o0 := by simpa using ha0
  obtain ⟨o', ka, kn, kc, ho', _, c0, _, _, c3, hks⟩ := hcell d hd
  obtain rfl : o = o' := by rw [ho] at ho'; simpa using ho'
  obtain rfl : kn = o.kids.length := hks.len
  simp only [Nat.zero_add] at c0 c3
  exact ⟨ka, kc, c0, c3, hks, hU0⟩
theorem LSt.kid {w W : World} {T j : Nat} {ka : Option Addr} {es : List LEnt} (h : EntsAt W w.heap.size T ka es.length es) (hj : j < es.length) :
    ∃ kb ko e, ka = some ⟨kb, ko, none⟩ ∧ kb < T ∧ es[j]? = some e ∧ e.name.size ≤ maxLen ∧ W.cell? ⟨kb, ko + j * 2, none⟩ = some (.string e.name) ∧ W.cell? ⟨kb, ko + j * 2 + 1, none⟩ = some (.int .i64 e.id) := by
  obtain ⟨kb, ko, h1, _, h3, h4⟩ := h.at_ (by omega)
  obtain ⟨e, h5, h6, h7, h8⟩ := h4 j hj
  exact ⟨kb, ko, e, h1, h3, h5, h6, h7, h8⟩
theorem bytes_ext {a b : ByteArray} (h : a.data.toList = b.data.toList) : a = b := by
  cases a; cases b
  simp at h
  rw [ByteArray.mk.injEq]
  exact h
theorem pathV_step {os : List LObj} (hs : specOk os = true) {id : Int} (h : hasB os id = true) (h0 : 0 < id) {d : Nat} (hd : homeIn (flat os) id = d) (hb : hasB os d = true) {nm : ByteArray} (hn : nameIn (flat os) id = nm) :
    pathV os id = (if d = 0 then (⟨#[]⟩ : ByteArray) else pathV os d) ++ ⟨#[47]⟩ ++ nm := by
  subst hn
  apply bytes_ext
  rw [pathV_pl hs h h0, pl_step hs h0 hd hb, bytes_cat, bytes_cat]
  by_cases hz : d = 0
  · subst hz
    rw [pl_zero os 32 (by omega)]
    simp
  · rw [if_neg hz, pathV_pl hs hb (by omega)]
    simp
theorem pathV_slash {os : List LObj} (hs : specOk os = true) {d : Nat} (hb : hasB os d = true) (h : d ≠ 0) : ((pathV os d).toList == [47]) = false := by
  have := pl_pos hs hb (id := d) (by omega)
  rw [ByteArray.toList_eq, pathV_pl hs hb (by omega)]
  apply Classical.byContradiction
  intro hn
  have e : pl os 32 d = [47] := by simpa using hn
  rw [e] at this
  simp at this
theorem pl_len {os : List LObj} (hs : specOk os = true) : ∀ (k : Nat) (id : Int), (pl os k id).length ≤ k * 5
  | 0, _ => by simp [pl]
  | k + 1, id => by
    unfold pl
    split
    · have h1 := pl_len hs k (homeIn (flat os) id)
      have h2 := name_small hs id
      have h3 : (nameIn (flat os) id).data.toList.length = (nameIn (flat os) id).size := by simp
      simp only [List.length_append, List.length_cons]
      omega
    · simp
theorem pathV_len {os : List LObj} (hs : specOk os = true) (id : Int) : (pathV os id).size ≤ 160 := by
  have e : (pathV os id).size = (pathV os id).data.toList.length := by simp
  cases hb : hasB os id with
  | false => rw [e, (pathV_empty hs id).2 hb]; simp
  | true =>
    by_cases hz : 0 < id
    · rw [e, pathV_pl hs hb hz]; exact pl_len hs 32 id
    · have h0 := (has_iff os id).1 hb
      obtain rfl : id = 0 := by omega
      rw [e, pathV_top hs hb]; simp
theorem kid_once {os : List LObj} (hs : specOk os = true) {d k j : Nat} {o : LObj} {e e' : LEnt} (ho : os[d]? = some o) (hk : o.kids[k]? = some e) (hj : o.kids[j]? = some e') (hq : kidsB o.kids = true) (h : e.id = e'.id) : j = k ∧ e' = e := by
  have hi := (specOk_iff os).1 hs
  have hu : Uniq (flat os) := hi.2.2.2.1.2.1
  have h1 := uniq_mem hu (mem_flat ho hk) (mem_flat ho hj) h
  have h2 : e = e' := by simpa using h1
  exact ⟨name_once (asc_of hq) hj hk (by rw [h2]), h2.symm⟩

set_option maxHeartbeats 4000000 in
set_option maxRecDepth 20000 in
theorem walkTreeHome (a : Option Addr) (n c : Nat) (zs : List Int) (w : World) (hc : n ≤ c) (hcb : n ≤ maxLen) (H : BytesAt w w.heap.size a n zs) :
    Calls Try.prog 7 #[.slice a n c] w fun e w' => e = .returned (.bool true) ∧ Below w.heap.size w w' := by
  unfold maxLen at hcb
  by_cases hbig : 1048576 < n
  · go_enter Try.func7, Try.ntmps7
    go_wp2_with fail
    go_ret
    exact ⟨rfl, Below.refl _ _⟩
  go_enter Try.func7, Try.ntmps7
  go_wp2_with fail
  refine (drawHome a n c zs w (by omega) hc H).mono ?_
  rintro e W1 ⟨⟨b, k, c2, os, x, rfl, hT⟩, hb1⟩
  have S1 := LSt.start (c := c2) hT hb1
  clear hT hb1 H
  go_wp2_with fail
  generalize hTq : W1.heap.size = T at *
  generalize hW2 : W1.alloc (Obj.cells #[.slice (some ⟨b, 0, none⟩) k c2] 25) = W2 at *
  clear hW2 hTq
  have hbd := S1.bn.sizes
  refine (implHome _ _ _ _ w.heap.size T x _ (by have := S1.lt; omega) S1.tree).mono ?_
  rintro e W3 ⟨rfl, hb3⟩
  have S3 := S1.next hb3
  have q3 := S3.t
  clear S1 hb3
  go_wp2_with fail
  refine (implPath _ _ _ _ w.heap.size T x _ (by have := S3.lt; omega) S3.tree).mono ?_
  rintro e W4 ⟨rfl, hb4⟩
  have S4 := S3.next hb4
  have q4 := S4.t
  clear S3 hb4 q3
  go_wp2_with fail
  refine (specHome _ _ _ _ w.heap.size T x _ hbd (by have := S4.lt; omega) S4.tree).mono ?_
  rintro e W5 ⟨rfl, hb5⟩
  have S5 := S4.next hb5
  have q5 := S5.t
  clear S4 hb5 q4
  generalize hh : homeV os x = h at *
  have HH : Hid (homeV os x = h) := hh
  clear hh
  go_wp2_with fail
  refine (specPath _ _ _ _ w.heap.size T x _ hbd (by have := S5.lt; omega) S5.tree).mono ?_
  rintro e W6 ⟨rfl, hb6⟩
  have S6 := S5.next hb6
  have q6 := S6.t
  clear S5 hb6 q5
  generalize hp : pathV os x = ps at *
  have HP : Hid (pathV os x = ps) := hp
  clear hp
  go_wp2_with fail
  refine (specTreeOk _ _ _ _ w.heap.size T _ hbd (by have := S6.lt; omega) S6.tree).mono ?_
  rintro e W7 ⟨rfl, hb7⟩
  have S7 := S6.next hb7
  have q7 := S7.t
  clear S6 hb7 q6
  cases hs : specOk os
  · obtain rfl : h = -1 := by rw [← HH.out]; exact homeV_no hs x
    obtain rfl : ps = ⟨#[]⟩ := by rw [← HP.out]; exact pathV_no hs x
    clear hs HH HP
    go_wp2_with fail
    go_ret
    exact ⟨rfl, S7.below⟩
  · have HS : Hid (specOk os = true) := hs
    clear hs
    by_cases hneg : h < 0
    · have hps : ps = ⟨#[]⟩ ∨ ps = ⟨#[47]⟩ := by
        rw [← HP.out]
        cases hb : hasB os x with
        | false => exact .inl (pathV_has hb)
        | true =>
          have h1 := fun h => (homeV_iff HS.out x).2 ⟨hb, h⟩
          rw [HH.out] at h1
          have h2 := (has_iff os x).1 hb
          obtain rfl : x = 0 := by omega
          exact .inr (pathV_top HS.out hb)
      rcases hps with rfl | rfl
      · go_wp2_with fail
        go_ret
        exact ⟨rfl, S7.below⟩
      · go_wp2_with fail
        go_ret
        exact ⟨rfl, S7.below⟩
    · have h1 := (homeV_iff HS.out x).1 (by rw [HH.out]; omega)
      obtain ⟨d, kk, o, e, g1, g2, g3, g4, g5, g6, g7, g8⟩ := live_home HS.out h1.1 h1.2
      obtain rfl : h = d := by rw [← HH.out, homeV_yes HS.out]; exact g4
      have HPS : Hid (ps = (if d = 0 then (⟨#[]⟩ : ByteArray) else pathV os d) ++ ⟨#[47]⟩ ++ e.name) := by
        show _ = _
        rw [← HP.out]
        exact pathV_step HS.out h1.1 h1.2 g4 g6 g5
      have HO : Hid (os[d]? = some o ∧ o.kids[kk]? = some e ∧ e.id = x ∧ kidsB o.kids = true ∧ hasB os d = true ∧ o.kind = 2) := ⟨g1, g2, g3, g8, g6, g7⟩
      have hk32 : k = 32 := by rw [S7.tree.len]; exact ((specOk_iff os).1 HS.out).1
      subst hk32
      have hd : d < 32 := by have := (has_iff os d).1 g6; omega
      have hdI : (d : Int) < 32 := by omega
      have hdz : ¬ (d : Int) < 0 := by omega
      clear g1 g2 g3 g4 g5 g6 g7 g8 h1 HH HP hneg
      have hkn := HO.out.1
      have hkl : o.kids.length ≤ 1000 := (S7.bn.at hkn).2.2.2.1
      generalize hkq : o.kids.length = kn at *
      have HKN : Hid (o.kids.length = kn) := hkq
      clear hkn hkq
      go_wp2_with fail
      go_loopg [7, 8] kn (fun g nn i wr => ∃ j : Nat, j ≤ kn ∧ Hid (g = kn - j) ∧ i = .int .i64 j ∧ (∃ z : Nat, nn = .int .i64 z ∧ Hid (z = if kk < j then 1 else 0)) ∧ Hid (LSt w wr T b 32 c2 os))
      case atStart => exact ⟨0, by omega, rfl, rfl, ⟨0, rfl, by show _ = _; simp⟩, S7⟩
      case round =>
        obtain ⟨j, hj, hg, rfl, ⟨z, rfl, hz⟩, HL⟩ := hrel
        obtain ⟨ka, kc, c0, c3, hks, hbT⟩ := HL.out.obj HO.out.1 hd
        rw [HKN.out] at c3
        have q8 := HL.out.t
        have hz8 := HL.out.lt
        have hbl : b < wr.heap.size := by omega
        by_cases hlt : j < kn
        · have hltI : (j : Int) < (kn : Int) := by omega
          obtain ⟨kb, ko, e', rfl, hkb, he', hes, e0, e1⟩ := LSt.kid hks (j := j) (by rw [HKN.out]; exact hlt)
          have hkbl : kb < wr.heap.size := by omega
          by_cases hid : e'.id = x
          · obtain ⟨rfl, rfl⟩ := kid_once HS.out HO.out.1 HO.out.2.1 he' HO.out.2.2.2.1 (by rw [HO.out.2.2.1]; exact hid.symm)
            have tid : (e'.id == x) = true := by simp [hid]
            obtain rfl : z = 0 := by have := hz.out; simp at this; exact this
            have hnm : e'.name.size ≤ 4 := (HL.out.bn.at HO.out.1).2.2.2.2 e' (List.mem_of_getElem? he')
            clear hid he' hks
            go_wp2_with fail
            refine (implPath _ _ _ _ w.heap.size T _ _ (by omega) HL.out.tree).mono ?_
            rintro e9 W9 ⟨rfl, hb9⟩
            have S9 := HL.out.next hb9
            have q9 := S9.t
            have hz9 := S9.lt
            have f3 : W9.cell? ⟨b, d * 4 + 3, none⟩ = some (.slice (some ⟨kb, ko, none⟩) kn kc) := by rw [hb9.cell (by simpa using hbl)]; exact c3
            have f0 : W9.cell? ⟨kb, ko + j * 2, none⟩ = some (.string e'.name) := by rw [hb9.cell (by simpa using hkbl)]; exact e0
            have hbl9 : b < W9.heap.size := by omega
            have hkb9 : kb < W9.heap.size := by omega
            clear HL hb9 q8 c0 c3 e0 e1
            have hul := pathV_len HS.out (d : Int)
            by_cases hd0 : d = 0
            · have tsl : ((pathV os (d : Int)).toList == [47]) = true := by
                rw [show pathV os (d : Int) = ⟨#[47]⟩ by rw [hd0]; exact pathV_top HS.out (top_live HS.out), ByteArray.toList_eq]
                rfl
              have HQ : Hid (ps = ⟨#[]⟩ ++ ⟨#[47]⟩ ++ e'.name) := by
                have := HPS.out
                rwa [if_pos hd0] at this
              generalize pathV os (d : Int) = up at *
              clear hd0
              have tps : (ps.toList == ((⟨#[]⟩ : ByteArray) ++ ⟨#[47]⟩ ++ e'.name).toList) = true := by rw [HQ.out]; simp
              go_wp2_with fail
              go_roundg (kn - (j + 1))
              case measure => have := hg.out; omega
              case rel => exact ⟨j + 1, by omega, rfl, by go_num, ⟨1, rfl, by show _ = _; rw [if_pos (by omega)]⟩, S9⟩
            · have tsl := pathV_slash HS.out HO.out.2.2.2.2.1 hd0
              have HQ : Hid (ps = pathV os (d : Int) ++ ⟨#[47]⟩ ++ e'.name) := by
                have := HPS.out
                rwa [if_neg hd0] at this
              generalize pathV os (d : Int) = up at *
              clear hd0
              have tps : (ps.toList == (up ++ ⟨#[47]⟩ ++ e'.name).toList) = true := by rw [HQ.out]; simp
              go_wp2_with fail
              go_roundg (kn - (j + 1))
              case measure => have := hg.out; omega
              case rel => exact ⟨j + 1, by omega, rfl, by go_num, ⟨1, rfl, by show _ = _; rw [if_pos (by omega)]⟩, S9⟩
          · have tid : (e'.id == x) = false := by simp [hid]
            have HNE : Hid (j ≠ kk) := fun e => hid (by
              rw [e, HO.out.2.1] at he'
              obtain rfl : e' = _ := by simpa using he'.symm
              exact HO.out.2.2.1)
            clear hid he' hks
            go_wp2_with fail
            go_roundg (kn - (j + 1))
            case measure => have := hg.out; omega
            case rel => exact ⟨j + 1, by omega, rfl, by go_num, ⟨z, rfl, by show _ = _; rw [hz.out]; have := HNE.out; split <;> split <;> omega⟩, HL⟩
        · have hltI : ¬ (j : Int) < (kn : Int) := by omega
          have hk2 : o.kind = 2 := HO.out.2.2.2.2.2
          have hkk : kk < j := by have := (List.getElem?_eq_some_iff.1 HO.out.2.1).1; rw [HKN.out] at this; omega
          obtain rfl : z = 1 := by rw [hz.out, if_pos hkk]
          rw [hk2] at c0
          clear hks
          go_wp2_with fail
          go_ret
          exact ⟨rfl, HL.out.below⟩
end Go.Proofs.Ytjenldenggaljaa

/- A name as it is drawn; the walk of the law FnTree. -/
namespace Go.Proofs.Ytjenldenggaljaa
open Go.RowKit

set_option maxHeartbeats 4000000 in
set_option maxRecDepth 20000 in
theorem name_to (rb P b n c : Nat) (os : List LObj) (L : Nat) (dir : Int) (w : World) (hp : P ≤ 999990) (hd0 : 0 ≤ dir) (hd1 : dir < 32) (hrL : rb < L) (hrw : rb < w.heap.size) (hB : Bn os) (H : ObjsAt w L w.heap.size (some ⟨b, 0, none⟩) n os) (R : RdTo w rb P) :
    Calls Try.prog 74 #[.pointer (some ⟨rb, 0, none⟩), .agg #[.slice (some ⟨b, 0, none⟩) n c], .int .i64 dir] w fun e w' => OfEnd 4 e ∧ RdTo w' rb (P + 3) ∧ But rb w w' := by
  obtain ⟨d, rfl⟩ : ∃ d : Nat, dir = d := ⟨dir.toNat, by omega⟩
  have hA : Below w.heap.size w (w.alloc (Obj.cells #[.slice (some ⟨b, 0, none⟩) n c] 25)) := (Below.refl _ _).alloc (Nat.le_refl _) _
  have aR := R.but hA hrw
  have aB := But.of_below hrw hA
  have ht : (w.alloc (Obj.cells #[.slice (some ⟨b, 0, none⟩) n c] 25)).cell? ⟨w.heap.size, 0, none⟩ = some (.slice (some ⟨b, 0, none⟩) n c) := by simp [go_sem]
  have hz : w.heap.size < (w.alloc (Obj.cells #[.slice (some ⟨b, 0, none⟩) n c] 25)).heap.size := by simp
  have hO := H.below hA (Nat.le_refl _)
  go_enter Try.func74, Try.ntmps74
  by_cases hdn : d < n
  case neg =>
    have hdI : ¬ (d : Int) < (n : Int) := by omega
    go_wp2_with (go_at_call 78; refine (l1Id_yes _ hd0 hd1 _).mono ?_; rintro x w2 ⟨rfl, rfl⟩)
    generalize hW : w.alloc (Obj.cells #[.slice (some ⟨b, 0, none⟩) n c] 25) = W at *
    have hWs : W.heap.size = w.heap.size + 1 := by rw [← hW]; simp
    rw [← hWs]
    refine (of_to rb (P) W.heap.size 6 6 4 _ (by omega) (by omega) (by omega) (by omega) (aR.but ((Below.refl _ _).alloc (Nat.le_refl _) _) (by omega)) (by intro i hi; match i, hi with | 0, _ => exact ⟨⟨#[97]⟩, by simp [go_sem], by simp [ByteArray.size]⟩ | 1, _ => exact ⟨⟨#[98]⟩, by simp [go_sem], by simp [ByteArray.size]⟩ | 2, _ => exact ⟨⟨#[99]⟩, by simp [go_sem], by simp [ByteArray.size]⟩ | 3, _ => exact ⟨⟨#[100]⟩, by simp [go_sem], by simp [ByteArray.size]⟩ | 4, _ => exact ⟨⟨#[101]⟩, by simp [go_sem], by simp [ByteArray.size]⟩ | 5, _ => exact ⟨⟨#[102]⟩, by simp [go_sem], by simp [ByteArray.size]⟩)).mono ?_
    rintro e w9 ⟨⟨s9, rfl, hs9⟩, hr9, hb9⟩
    have hB9 : But rb w w9 := (aB.trans (But.of_below (by omega) ((Below.refl _ _).alloc (Nat.le_refl _) _))).trans hb9
    obtain ⟨q9, hq9, R9⟩ := hr9
    go_wp2_with fail
    go_ret
    exact ⟨⟨s9, rfl, hs9⟩, ⟨q9, by omega, R9⟩, hB9⟩
  have hdI : (d : Int) < (n : Int) := by omega
  obtain ⟨b0, o0, ha0, hL0, hU0, hcell⟩ := hO.at_ (by omega)
  obtain ⟨rfl, rfl⟩ : b = b0 ∧ 0 = o0 := by simpa using ha0
  obtain ⟨o, ka, kn, kc, ho, _, _, _, _, c3, hks⟩ := hcell d hdn
  simp only [Nat.zero_add] at c3
  have HBO := hB.at ho
  have HKN : Hid (kn = o.kids.length) := hks.len
  have hkn : kn ≤ 1000 := by rw [hks.len]; exact HBO.2.2.2.1
  clear hcell ha0
  by_cases hk0 : kn = 0
  · have hkI : ¬ (0 : Int) < (kn : Int) := by omega
    clear hks
    go_wp2_with (go_at_call 78; refine (l1Id_yes _ hd0 hd1 _).mono ?_; rintro x w2 ⟨rfl, rfl⟩)
    generalize hW : w.alloc (Obj.cells #[.slice (some ⟨b, 0, none⟩) n c] 25) = W at *
    have hWs : W.heap.size = w.heap.size + 1 := by rw [← hW]; simp
    rw [← hWs]
    refine (of_to rb (P) W.heap.size 6 6 4 _ (by omega) (by omega) (by omega) (by omega) (aR.but ((Below.refl _ _).alloc (Nat.le_refl _) _) (by omega)) (by intro i hi; match i, hi with | 0, _ => exact ⟨⟨#[97]⟩, by simp [go_sem], by simp [ByteArray.size]⟩ | 1, _ => exact ⟨⟨#[98]⟩, by simp [go_sem], by simp [ByteArray.size]⟩ | 2, _ => exact ⟨⟨#[99]⟩, by simp [go_sem], by simp [ByteArray.size]⟩ | 3, _ => exact ⟨⟨#[100]⟩, by simp [go_sem], by simp [ByteArray.size]⟩ | 4, _ => exact ⟨⟨#[101]⟩, by simp [go_sem], by simp [ByteArray.size]⟩ | 5, _ => exact ⟨⟨#[102]⟩, by simp [go_sem], by simp [ByteArray.size]⟩)).mono ?_
    rintro e w9 ⟨⟨s9, rfl, hs9⟩, hr9, hb9⟩
    have hB9 : But rb w w9 := (aB.trans (But.of_below (by omega) ((Below.refl _ _).alloc (Nat.le_refl _) _))).trans hb9
    obtain ⟨q9, hq9, R9⟩ := hr9
    go_wp2_with fail
    go_ret
    exact ⟨⟨s9, rfl, hs9⟩, ⟨q9, by omega, R9⟩, hB9⟩
  have hkI : (0 : Int) < (kn : Int) := by omega
  go_wp2_with (go_at_call 78; refine (l1Id_yes _ hd0 hd1 _).mono ?_; rintro x w2 ⟨rfl, rfl⟩)
  generalize hW : w.alloc (Obj.cells #[.slice (some ⟨b, 0, none⟩) n c] 25) = W at *
  have hWs : w.heap.size < W.heap.size := by rw [← hW]; simp
  clear hW
  refine (pick_to rb P 3 _ (by omega) (by omega) (by omega) aR).mono ?_
  rintro e W2 ⟨⟨x, rfl, hx⟩, bR, hb2⟩
  have bB := aB.trans hb2
  have hz2 : w.heap.size < W2.heap.size := by have := hb2.below.size; omega
  have t2 : W2.cell? ⟨w.heap.size, 0, none⟩ = some (.slice (some ⟨b, 0, none⟩) n c) := by rw [hb2.cell (by simp; omega) (by simpa using hWs)]; exact ht
  have d3 : W2.cell? ⟨b, d * 4 + 3, none⟩ = some (.slice ka kn kc) := by rw [hb2.cell (by simp; omega) (by simp; omega)]; exact c3
  have hks2 := hks.but hb2 hrL (by omega)
  have hb1 : b < W2.heap.size := by omega
  clear c3 ht hz hO hks aB aR hb2
  by_cases hx0 : x = 0
  · subst hx0
    go_wp2_with fail
    refine (of_to rb (P + 1) W2.heap.size 6 6 4 _ (by omega) (by omega) (by omega) (by omega) (bR.but ((Below.refl _ _).alloc (Nat.le_refl _) _) (by omega)) (by intro i hi; match i, hi with | 0, _ => exact ⟨⟨#[97]⟩, by simp [go_sem], by simp [ByteArray.size]⟩ | 1, _ => exact ⟨⟨#[98]⟩, by simp [go_sem], by simp [ByteArray.size]⟩ | 2, _ => exact ⟨⟨#[99]⟩, by simp [go_sem], by simp [ByteArray.size]⟩ | 3, _ => exact ⟨⟨#[100]⟩, by simp [go_sem], by simp [ByteArray.size]⟩ | 4, _ => exact ⟨⟨#[101]⟩, by simp [go_sem], by simp [ByteArray.size]⟩ | 5, _ => exact ⟨⟨#[102]⟩, by simp [go_sem], by simp [ByteArray.size]⟩)).mono ?_
    rintro e w9 ⟨⟨s9, rfl, hs9⟩, hr9, hb9⟩
    have hB9 : But rb w w9 := (bB.trans (But.of_below (by omega) ((Below.refl _ _).alloc (Nat.le_refl _) _))).trans hb9
    obtain ⟨q9, hq9, R9⟩ := hr9
    go_wp2_with fail
    go_ret
    exact ⟨⟨s9, rfl, hs9⟩, ⟨q9, by omega, R9⟩, hB9⟩
  · have hx1 : (0 : Int) < (x : Int) := by omega
    obtain ⟨kb, ko, rfl, hkL, hkU, hkc⟩ := hks2.at_ hk0
    have hkb : kb < W2.heap.size := by omega
    have hkr : kb ≠ rb := by omega
    generalize hnq : (fun i : Nat => ((o.kids[i]?).map (fun e : LEnt => e.name)).getD ⟨#[]⟩) = nf at *
    have hnf : ∀ i, i < kn → W2.cell? ⟨kb, ko + i * 2, none⟩ = some (.string (nf i)) := fun i hi => by
      obtain ⟨e, h1, _, h3, _⟩ := hkc i hi
      rw [h3, ← hnq]
      simp [h1]
    have hn4 : ∀ i, i < kn → (nf i).size ≤ 4 := fun i hi => by
      obtain ⟨e, h1, _, _, _⟩ := hkc i hi
      rw [← hnq]
      simp only [h1, Option.map_some, Option.getD_some]
      exact HBO.2.2.2.2 e (List.mem_of_getElem? h1)
    have HN4 : Hid (∀ i, i < kn → (nf i).size ≤ 4) := hn4
    clear hkc hnq hn4 hks2
    go_upto_region 2 with fail
    go_region_held3 (fun w' => w'.cell? ⟨w.heap.size, 0, none⟩ = some (.slice (some ⟨b, 0, none⟩) n c) ∧ w'.cell? ⟨b, d * 4 + 3, none⟩ = some (.slice (some ⟨kb, ko, none⟩) kn kc) ∧ ∀ i, i < kn → w'.cell? ⟨kb, ko + i * 2, none⟩ = some (.string (nf i)))
      (first | exact ⟨tB, dB, nB⟩ | exact ⟨t2, d3, hnf⟩)
      (first
        | (go_at_call 110; refine (pick_to rb (P + 1) kn _ (by omega) (by omega) (by omega) (bR.but (Below.refl _ _).drew (by omega))).mono ?_; rintro e wB ⟨⟨y, rfl, hy⟩, hrB, hbB⟩; have hyI : (y : Int) < (kn : Int) := (by omega); have hzB : W2.heap.size ≤ wB.heap.size := (by have := hbB.below.size; simpa using this); have tB : wB.cell? ⟨w.heap.size, 0, none⟩ = some (.slice (some ⟨b, 0, none⟩) n c) := (by rw [hbB.cell (by simp; omega) (by simpa using hz2)]; exact t2); have dB : wB.cell? ⟨b, d * 4 + 3, none⟩ = some (.slice (some ⟨kb, ko, none⟩) kn kc) := (by rw [hbB.cell (by simp; omega) (by simpa using hb1)]; exact d3); have nB : ∀ i, i < kn → wB.cell? ⟨kb, ko + i * 2, none⟩ = some (.string (nf i)) := (fun i hi => by rw [hbB.cell (by simpa using hkr) (by simpa using hkb)]; exact hnf i hi); have hkbB : kb < wB.heap.size := (by omega)))
    all_goals
      go_wp2_with fail
      go_ret
      obtain ⟨q9, hq9, R9⟩ := hrB
      exact ⟨⟨nf y, rfl, HN4.out y hy⟩, ⟨q9, by omega, R9⟩, (bB.trans (But.of_below (by omega) (Below.refl _ _).drew)).trans hbB⟩
def DrawnF (w : World) (e : Ending) (w' : World) : Prop := (∃ (b n c : Nat) (os : List LObj) (x : Int) (y : ByteArray), e = .returned (.tuple #[.agg #[.slice (some ⟨b, 0, none⟩) n c], .int .i64 x, .string y]) ∧ TreeIn w w' b n os ∧ y.size ≤ 4) ∧ Below w.heap.size w w'
set_option maxHeartbeats 4000000 in
set_option maxRecDepth 20000 in
theorem drawFind (a : Option Addr) (n c : Nat) (zs : List Int) (w : World) (hn : n ≤ 1048576) (hc : n ≤ c) (H : BytesAt w w.heap.size a n zs) :
    Calls Try.prog 23 #[.slice a n c] w fun e w' => DrawnF w e w' := by
  go_enter Try.func23, Try.ntmps23
  go_wp2_with fail
  refine (open16 a n c zs (w.heap.size + 1) _ hn hc (bytes_box H)).mono ?_
  rintro e W1 ⟨m, c', ys, rfl, hm, hm0, hB, rfl⟩
  go_wp2_with fail
  refine (bent_any (w.heap.size + 1) 0 _ (by omega) (by simp) (rd_open hm hB)).mono ?_
  rintro e W2 hE
  obtain ⟨b, k, c2, os, rfl, S2⟩ := DSt.start hE
  clear hE hB H
  have S3 := S2.more (W' := W2.alloc (Obj.cells #[.slice (some ⟨b, 0, none⟩) k c2] 25)) ((Below.refl _ _).alloc (Nat.le_refl _) _)
  have hz2 := S2.rlt2
  have htb : (W2.alloc (Obj.cells #[.slice (some ⟨b, 0, none⟩) k c2] 25)).cell? ⟨W2.heap.size, 0, none⟩ = some (.slice (some ⟨b, 0, none⟩) k c2) := by simp [go_sem]
  have hT : W2.heap.size < (W2.alloc (Obj.cells #[.slice (some ⟨b, 0, none⟩) k c2] 25)).heap.size := by simp
  go_wp2_with fail
  generalize hTq : W2.heap.size = T at *
  generalize hW3 : W2.alloc (Obj.cells #[.slice (some ⟨b, 0, none⟩) k c2] 25) = W3 at *
  clear hW3 hTq S2
  obtain ⟨L, hL, hO⟩ := S3.tree
  refine (dir_to (w.heap.size + 1) 160 (some ⟨b, 0, none⟩) k c2 os L W3.heap.size W3 (by omega) S3.le (Nat.le_refl _) hO S3.rd).mono ?_
  rintro e W4 ⟨⟨x, rfl, hx⟩, hr4, hb4⟩
  have S4 := S3.next hb4 hr4
  have ht4 : W4.cell? ⟨T, 0, none⟩ = some (.slice (some ⟨b, 0, none⟩) k c2) := by rw [hb4.cell (by simp; omega) (by simpa using hT)]; exact htb
  have hT4 : T < W4.heap.size := by have := hb4.below.size; omega
  clear S3 hb4 hr4 hO hL htb hT
  have hne : T ≠ w.heap.size := by omega
  have S5 := S4.more (W' := W4.drew) (Below.refl _ _).drew
  obtain ⟨L, hL, hO⟩ := S5.tree
  go_upto_region 4 with fail
  go_region_held3 (fun w' => w'.cell? ⟨T, 0, none⟩ = some (.slice (some ⟨b, 0, none⟩) k c2)) (first | go_keep | with_reducible exact htB | (rw [World.cell?_setCell_other _ _ _ _ (by first | (simp; done) | (simp; omega))]; with_reducible exact htB))
    (first
      | (go_at_call 74; refine (name_to (w.heap.size + 1) 162 b k c2 os L x _ (by omega) hx.1 hx.2 hL S5.rlt2 S4.bn hO S5.rd).mono ?_; rintro e wB ⟨⟨y, rfl, hy⟩, hrB, hbB⟩; have SB := S5.next hbB hrB; have htB : wB.cell? ⟨T, 0, none⟩ = some (.slice (some ⟨b, 0, none⟩) k c2) := (by rw [hbB.cell (by simp; omega) (by simpa using hT4)]; exact ht4); obtain ⟨⟨rv, hr0⟩, hr1, hz⟩ := SB.box))
  all_goals
    go_wp2_with fail
    refine bodyPost_ret (v := .tuple #[.agg #[.slice (some ⟨b, 0, none⟩) k c2], .int .i64 x, .string y]) (by rw [results, Try.results23]; simp [go_sem, World.cell?_setCell_same _ _ _ hr0]) rfl ?_
    exact ⟨⟨b, k, c2, os, x, y, rfl, (SB.fin _).1, hy⟩, (SB.fin _).2⟩

set_option maxHeartbeats 8000000 in
set_option maxRecDepth 20000 in
theorem walkTree (a : Option Addr) (n c : Nat) (zs : List Int) (w : World) (hc : n ≤ c) (hcb : n ≤ maxLen) (H : BytesAt w w.heap.size a n zs) :
    Calls Try.prog 3 #[.slice a n c] w fun e w' => e = .returned (.bool true) ∧ Below w.heap.size w w' := by
  unfold maxLen at hcb
  by_cases hbig : 1048576 < n
  · go_enter Try.func3, Try.ntmps3
    go_wp2_with fail
    go_ret
    exact ⟨rfl, Below.refl _ _⟩
  go_enter Try.func3, Try.ntmps3
  go_wp2_with fail
  refine (drawFind a n c zs w (by omega) hc H).mono ?_
  rintro e W1 ⟨⟨b, k, c2, os, dir, name, rfl, hT, hnm⟩, hb1⟩
  have S1 := LSt.start (c := c2) hT hb1
  have hnm2 : name.size ≤ maxLen := le_maxLen4 hnm
  clear hT hb1 H
  go_wp2_with fail
  generalize hTq : W1.heap.size = T at *
  generalize hW2 : W1.alloc (Obj.cells #[.slice (some ⟨b, 0, none⟩) k c2] 25) = W2 at *
  clear hW2 hTq
  have hbd := S1.bn.sizes
  refine (implFind _ _ _ _ w.heap.size T dir name _ hnm2 hbd (by have := S1.lt; omega) S1.tree).mono ?_
  rintro e W3 ⟨rfl, hb3⟩
  have S3 := S1.next hb3
  have q3 := S3.t
  clear S1 hb3
  generalize hf : treeFindV os dir name = id at *
  have hf2 : treeFindV os dir name = id := hf
  have HF : Hid (treeFindV os dir name = id) := hf
  clear hf
  go_upto_region 5 with fail
  go_region_held3 (fun w' => w'.cell? ⟨T, 0, none⟩ = some (.slice (some ⟨b, 0, none⟩) k c2)) (first | with_reducible exact SX.t | exact q3)
    (first
      | (go_at_call 25; refine (specFind _ _ _ _ w.heap.size T dir name _ hnm2 hbd (by first | (have := SX.lt; omega) | (have := S3.drew.lt; omega)) (by first | with_reducible exact SX.tree | exact S3.drew.tree)).mono ?_; rintro e WX ⟨rfl, hbX⟩; have SX := LSt.next (by first | with_reducible exact SX | exact S3.drew) hbX)
      | (go_at_call 26; refine (implTreeOk _ _ _ _ w.heap.size T _ (by first | (have := SX.lt; omega) | (have := S3.drew.lt; omega)) (by first | with_reducible exact SX.tree | exact S3.drew.tree)).mono ?_; rintro e WX ⟨rfl, hbX⟩; have SX := LSt.next (by first | with_reducible exact SX | exact S3.drew) hbX)
      | (go_at_call 27; refine (specTreeOk _ _ _ _ w.heap.size T _ hbd (by first | (have := SX.lt; omega) | (have := S3.drew.lt; omega)) (by first | with_reducible exact SX.tree | exact S3.drew.tree)).mono ?_; rintro e WX ⟨rfl, hbX⟩; have SX := LSt.next (by first | with_reducible exact SX | exact S3.drew) hbX))
  have S6 := SX
  have q6 := S6.t
  clear SX S3 q3 hf2
  cases hs : specOk os
  · obtain rfl : id = -1 := by rw [← HF.out]; exact tf_no hs dir name
    have HS : Hid (specOk os = false) := hs
    clear hs HF
    go_wp2_with fail
    refine (specTreeOk _ _ _ _ w.heap.size T _ hbd (by have := S6.lt; omega) S6.tree).mono ?_
    rintro e W7 ⟨rfl, hb7⟩
    have S7 := S6.next hb7
    rw [HS.out]
    go_wp2_with fail
    go_ret
    exact ⟨rfl, S7.below⟩
  have HS : Hid (specOk os = true) := hs
  clear hs
  go_wp2_with fail
  refine (specTreeOk _ _ _ _ w.heap.size T _ hbd (by have := S6.lt; omega) S6.tree).mono ?_
  rintro e W7 ⟨rfl, hb7⟩
  have S7 := S6.next hb7
  have q7 := S7.t
  clear S6 hb7 q6
  rw [HS.out]
  have hIDX : (¬ 0 ≤ id) ∨ (0 ≤ id ∧ homeV os id = dir ∧ underV os id dir = true ∧ underV os dir id = false) := by
    by_cases hid : 0 ≤ id
    · have h9 := find_under (os := os) (dir := dir) (name := name) (by rw [HF.out]; exact hid)
      rw [HF.out] at h9
      exact .inr ⟨hid, h9⟩
    · exact .inl hid
  clear HF
  go_upto_region 9 with fail
  go_cut [63] (fun s wx => s = .bool false ∧ Hid (LSt w wx T b k c2 os))
  case first =>
    rcases hIDX with hid | ⟨hid, hf1, hf2, hf3⟩
    · go_wp2_with fail
      go_meet
      exact ⟨rfl, S7⟩
    · go_wp2_with fail
      refine (implHome _ _ _ _ w.heap.size T _ _ (by have := S7.lt; omega) S7.tree).mono ?_
      rintro e W8 ⟨rfl, hb8⟩
      have S8 := S7.next hb8
      have q8 := S8.t
      rw [hf1]
      go_wp2_with fail
      refine (implUnder _ _ _ _ w.heap.size T _ _ _ (by have := S8.lt; omega) S8.tree).mono ?_
      rintro e W9 ⟨rfl, hb9⟩
      have S9 := S8.next hb9
      have q9 := S9.t
      rw [hf2]
      go_wp2_with fail
      refine (implUnder _ _ _ _ w.heap.size T _ _ _ (by have := S9.lt; omega) S9.tree).mono ?_
      rintro e W10 ⟨rfl, hb10⟩
      have S10 := S9.next hb10
      rw [hf3]
      go_wp2_with fail
      go_meet
      exact ⟨rfl, S10⟩
  case rest =>
    obtain ⟨rfl, HL⟩ := hcut
    have hk32 : k = 32 := by rw [S7.tree.len]; exact ((specOk_iff os).1 HS.out).1
    subst hk32
    clear S7 q7 hIDX
    go_wp2_with fail
    go_loopg [7] 32 (fun g i wr => ∃ j : Nat, j ≤ 32 ∧ Hid (g = 32 - j) ∧ i = .int .i64 j ∧ Hid (LSt w wr T b 32 c2 os))
    case atStart => exact ⟨0, by omega, rfl, rfl, HL⟩
    case round =>
      obtain ⟨j, hj, hg, rfl, HL1⟩ := hrel
      by_cases hlt : j < 32
      · have hltI : (j : Int) < 32 := by omega
        obtain ⟨o, ho⟩ : ∃ o, os[j]? = some o := ⟨os[j]'(by have := ((specOk_iff os).1 HS.out).1; omega), by simp⟩
        obtain ⟨ka, kc, c0, _, _, hbT⟩ := HL1.out.obj ho hlt
        have q1 := HL1.out.t
        have hz1 := HL1.out.lt
        have hbl : b < wr.heap.size := by omega
        have HO : Hid (os[j]? = some o) := ho
        clear ho HL
        go_wp2_with fail
        refine (implPath _ _ _ _ w.heap.size T _ _ (by omega) HL1.out.tree).mono ?_
        rintro e W2 ⟨rfl, hb2⟩
        have S2 := HL1.out.next hb2
        have q2 := S2.t
        clear c0 q1 hz1 hbl hb2 HL1
        go_upto_region 16 with fail
        have HHB : Hid (hasB os j = (o.kind != 0)) := by
          show _ = _
          rw [hasB, Int.toNat_natCast, kindOf_at HO.out]
          have h1 : decide (0 ≤ (j : Int)) = true := by simp
          have h2 : decide ((j : Int) < 32) = true := by simp; omega
          rw [h1, h2]
          rfl
        generalize (o.kind != 0) = lv at *
        generalize hpq : pathV os (j : Int) = ps at *
        have HP : Hid (pathV os (j : Int) = ps) := hpq
        clear hpq HO
        have HU : Hid (underV os j 0 = lv) := by show _ = _; rw [underV_top HS.out]; exact HHB.out
        go_cut [107] (fun s wx => s = .bool false ∧ Hid (LSt w wx T b 32 c2 os))
        case first =>
          cases lv
          · have te : ps.toList.isEmpty = true := by
              rw [ByteArray.toList_eq, ← HP.out, (pathV_empty HS.out _).2 HHB.out]; rfl
            have HM : Hid (homeV os j = -1) := by show _ = _; rw [homeV_yes HS.out]; exact dead_home HS.out HHB.out
            go_wp2_with fail
            refine (implUnder _ _ _ _ w.heap.size T _ _ _ (by have := S2.lt; omega) S2.tree).mono ?_
            rintro e W3 ⟨rfl, hb3⟩
            have S3 := S2.next hb3
            have q3 := S3.t
            rw [HU.out]
            go_wp2_with fail
            refine (specPath _ _ _ _ w.heap.size T _ _ hbd (by have := S3.lt; omega) S3.tree).mono ?_
            rintro e W4 ⟨rfl, hb4⟩
            have S4 := S3.next hb4
            have q4 := S4.t
            rw [HP.out]
            go_wp2_with fail
            refine (implHome _ _ _ _ w.heap.size T _ _ (by have := S4.lt; omega) S4.tree).mono ?_
            rintro e W5 ⟨rfl, hb5⟩
            have S5 := S4.next hb5
            rw [HM.out]
            go_wp2_with fail
            go_meet
            exact ⟨by first | rfl | (simp; omega), S5⟩
          · have te : ps.toList.isEmpty = false := by
              cases hq : ps.toList.isEmpty with
              | false => rfl
              | true =>
                rw [ByteArray.toList_eq, List.isEmpty_iff, ← HP.out, pathV_empty HS.out, HHB.out] at hq
                cases hq
            by_cases hj0 : j = 0
            · have HM : Hid (homeV os j = -1) := by show _ = _; rw [homeV_yes HS.out]; exact home_neg HS.out (by omega)
              have hjI : ¬ (0 : Int) < (j : Int) := by omega
              clear hj0
              go_wp2_with fail
              refine (implUnder _ _ _ _ w.heap.size T _ _ _ (by have := S2.lt; omega) S2.tree).mono ?_
              rintro e W3 ⟨rfl, hb3⟩
              have S3 := S2.next hb3
              have q3 := S3.t
              rw [HU.out]
              go_wp2_with fail
              refine (specPath _ _ _ _ w.heap.size T _ _ hbd (by have := S3.lt; omega) S3.tree).mono ?_
              rintro e W4 ⟨rfl, hb4⟩
              have S4 := S3.next hb4
              have q4 := S4.t
              rw [HP.out]
              go_wp2_with fail
              refine (implHome _ _ _ _ w.heap.size T _ _ (by have := S4.lt; omega) S4.tree).mono ?_
              rintro e W5 ⟨rfl, hb5⟩
              have S5 := S4.next hb5
              rw [HM.out]
              go_wp2_with fail
              go_meet
              exact ⟨by first | rfl | (simp; omega), S5⟩
            · obtain ⟨d, _, _, _, _, _, _, hd, _⟩ := live_home HS.out HHB.out (by omega)
              have HM : Hid (homeV os j = (d : Int)) := by show _ = _; rw [homeV_yes HS.out]; exact hd
              have hjI : (0 : Int) < (j : Int) := by omega
              have hdI : (0 : Int) ≤ (d : Int) := by omega
              clear hd
              go_wp2_with fail
              refine (implUnder _ _ _ _ w.heap.size T _ _ _ (by have := S2.lt; omega) S2.tree).mono ?_
              rintro e W3 ⟨rfl, hb3⟩
              have S3 := S2.next hb3
              have q3 := S3.t
              rw [HU.out]
              go_wp2_with fail
              refine (specPath _ _ _ _ w.heap.size T _ _ hbd (by have := S3.lt; omega) S3.tree).mono ?_
              rintro e W4 ⟨rfl, hb4⟩
              have S4 := S3.next hb4
              have q4 := S4.t
              rw [HP.out]
              go_wp2_with fail
              refine (implHome _ _ _ _ w.heap.size T _ _ (by have := S4.lt; omega) S4.tree).mono ?_
              rintro e W5 ⟨rfl, hb5⟩
              have S5 := S4.next hb5
              rw [HM.out]
              go_wp2_with fail
              go_meet
              exact ⟨by first | rfl | (simp; omega), S5⟩
        case rest =>
          obtain ⟨rfl, HL2⟩ := hcut
          clear S2 q2
          go_wp2_with fail
          go_loopg [10] j (fun g i wx => ∃ m : Nat, m ≤ j ∧ Hid (g = j - m) ∧ i = .int .i64 m ∧ Hid (LSt w wx T b 32 c2 os))
          case atStart => exact ⟨0, by omega, rfl, rfl, HL2⟩
          case round =>
            obtain ⟨m, hm, hg2, rfl, HL3⟩ := hrel
            by_cases hmj : m < j
            · have hmI : (m : Int) < (j : Int) := by omega
              cases lv
              · go_wp2_with fail
                go_roundg (j - (m + 1))
                case measure => have := hg2.out; omega
                case rel => exact ⟨m + 1, by omega, rfl, by go_num, HL3⟩
              · have q5 := HL3.out.t
                have HNE : Hid (((pathV os (m : Int)).toList == ps.toList) = false) := by
                  show _ = _
                  cases hq : ((pathV os (m : Int)).toList == ps.toList) with
                  | false => rfl
                  | true =>
                    have h1 : (pathV os (m : Int)).toList = ps.toList := by simpa using hq
                    rw [ByteArray.toList_eq, ByteArray.toList_eq, ← HP.out] at h1
                    exact absurd (bytes_ext h1) (pathV_inj HS.out HHB.out (by omega) (by omega))
                go_wp2_with fail
                refine (implPath _ _ _ _ w.heap.size T _ _ (by have := HL3.out.lt; omega) HL3.out.tree).mono ?_
                rintro e W6 ⟨rfl, hb6⟩
                have S6 := HL3.out.next hb6
                have tq := HNE.out
                generalize pathV os (m : Int) = qs at *
                go_wp2_with fail
                go_roundg (j - (m + 1))
                case measure => have := hg2.out; omega
                case rel => exact ⟨m + 1, by omega, rfl, by go_num, S6⟩
            · have hmI : ¬ (m : Int) < (j : Int) := by omega
              go_wp2_with fail
              go_roundg (32 - (j + 1))
              case measure => have := hg.out; omega
              case rel => exact ⟨j + 1, by omega, rfl, by go_num, HL3⟩
      · have hltI : ¬ (j : Int) < 32 := by omega
        go_wp2_with fail
        go_ret
        exact ⟨rfl, HL1.out.below⟩
end Go.Proofs.Ytjenldenggaljaa
