/- The walk of the law FnTreeHome. -/
import Derived.Test.YtjenldenggaljaaLaws
namespace Go.Proofs.Ytjenldenggaljaa
open Go.RowKit

/-- An object of the tree: its cells. -/
theorem LSt.obj {w W : World} {T b n c d : Nat} {os : List LObj} {o : LObj} (h : LSt w W T b n c os) (ho : os[d]? = some o) (hd : d < n) :
    ∃ ka kc, W.cell? ⟨b, d * 4, none⟩ = some (.int .i64 o.kind) ∧ W.cell? ⟨b, d * 4 + 3, none⟩ = some (.slice ka o.kids.length kc) ∧ EntsAt W w.heap.size T ka o.kids.length o.kids ∧ b < T := by
  obtain ⟨b0, o0, ha0, hL0, hU0, hcell⟩ := h.tree.at_ (by omega)
  obtain ⟨rfl, rfl⟩ : b = b0 ∧ 0 = o0 := by simpa using ha0
  obtain ⟨o', ka, kn, kc, ho', _, c0, _, _, c3, hks⟩ := hcell d hd
  obtain rfl : o = o' := by rw [ho] at ho'; simpa using ho'
  obtain rfl : kn = o.kids.length := hks.len
  simp only [Nat.zero_add] at c0 c3
  exact ⟨ka, kc, c0, c3, hks, hU0⟩
theorem LSt.kid {w W : World} {T j : Nat} {ka : Option Addr} {es : List LEnt} (h : EntsAt W w.heap.size T ka es.length es) (hj : j < es.length) :
    ∃ kb ko e, ka = some ⟨kb, ko, none⟩ ∧ kb < T ∧ es[j]? = some e ∧ e.name.size ≤ maxLen ∧ W.cell? ⟨kb, ko + j * 2, none⟩ = some (.string e.name) ∧ W.cell? ⟨kb, ko + j * 2 + 1, none⟩ = some (.int .i64 e.id) := by
  obtain ⟨kb, ko, h1, _, h3, h4⟩ := h.at_ (by omega)
  obtain ⟨e, h5, h6, h7, h8⟩ := h4 j hj
  exact ⟨kb, ko, e, h1, h3, h5, h6, h7, h8⟩
theorem bytes_ext {a b : ByteArray} (h : a.data.toList = b.data.toList) : a = b := by
  cases a; cases b
  simp at h
  rw [ByteArray.mk.injEq]
  exact h
theorem pathV_step {os : List LObj} (hs : specOk os = true) {id : Int} (h : hasB os id = true) (h0 : 0 < id) {d : Nat} (hd : homeIn (flat os) id = d) (hb : hasB os d = true) {nm : ByteArray} (hn : nameIn (flat os) id = nm) :
    pathV os id = (if d = 0 then (⟨#[]⟩ : ByteArray) else pathV os d) ++ ⟨#[47]⟩ ++ nm := by
  subst hn
  apply bytes_ext
  rw [pathV_pl hs h h0, pl_step hs h0 hd hb, bytes_cat, bytes_cat]
  by_cases hz : d = 0
  · subst hz
    rw [pl_zero os 32 (by omega)]
    simp
  · rw [if_neg hz, pathV_pl hs hb (by omega)]
    simp
theorem pathV_slash {os : List LObj} (hs : specOk os = true) {d : Nat} (hb : hasB os d = true) (h : d ≠ 0) : ((pathV os d).toList == [47]) = false := by
  have := pl_pos hs hb (id := d) (by omega)
  rw [ByteArray.toList_eq, pathV_pl hs hb (by omega)]
  apply Classical.byContradiction
  intro hn
  have e : pl os 32 d = [47] := by simpa using hn
  rw [e] at this
  simp at this
theorem pl_len {os : List LObj} (hs : specOk os = true) : ∀ (k : Nat) (id : Int), (pl os k id).length ≤ k * 5
  | 0, _ => by simp [pl]
  | k + 1, id => by
    unfold pl
    split
    · have h1 := pl_len hs k (homeIn (flat os) id)
      have h2 := name_small hs id
      have h3 : (nameIn (flat os) id).data.toList.length = (nameIn (flat os) id).size := by simp
      simp only [List.length_append, List.length_cons]
      omega
    · simp
theorem pathV_len {os : List LObj} (hs : specOk os = true) (id : Int) : (pathV os id).size ≤ 160 := by
  have e : (pathV os id).size = (pathV os id).data.toList.length := by simp
  cases hb : hasB os id with
  | false => rw [e, (pathV_empty hs id).2 hb]; simp
  | true =>
    by_cases hz : 0 < id
    · rw [e, pathV_pl hs hb hz]; exact pl_len hs 32 id
    · have h0 := (has_iff os id).1 hb
      obtain rfl : id = 0 := by omega
      rw [e, pathV_top hs hb]; simp
theorem kid_once {os : List LObj} (hs : specOk os = true) {d k j : Nat} {o : LObj} {e e' : LEnt} (ho : os[d]? = some o) (hk : o.kids[k]? = some e) (hj : o.kids[j]? = some e') (hq : kidsB o.kids = true) (h : e.id = e'.id) : j = k ∧ e' = e := by
  have hi := (specOk_iff os).1 hs
  have hu : Uniq (flat os) := hi.2.2.2.1.2.1
  have h1 := uniq_mem hu (mem_flat ho hk) (mem_flat ho hj) h
  have h2 : e = e' := by simpa using h1
  exact ⟨name_once (asc_of hq) hj hk (by rw [h2]), h2.symm⟩

set_option maxHeartbeats 4000000 in
set_option maxRecDepth 20000 in
theorem walkTreeHome (a : Option Addr) (n c : Nat) (zs : List Int) (w : World) (hc : n ≤ c) (hcb : n ≤ maxLen) (H : BytesAt w w.heap.size a n zs) :
    Calls Try.prog 7 #[.slice a n c] w fun e w' => e = .returned (.bool true) ∧ Below w.heap.size w w' := by
  unfold maxLen at hcb
  by_cases hbig : 1048576 < n
  · go_enter Try.func7, Try.ntmps7
    go_wp2_with fail
    go_ret
    exact ⟨rfl, Below.refl _ _⟩
  go_enter Try.func7, Try.ntmps7
  go_wp2_with fail
  refine (drawHome a n c zs w (by omega) hc H).mono ?_
  rintro e W1 ⟨⟨b, k, c2, os, x, rfl, hT⟩, hb1⟩
  have S1 := LSt.start (c := c2) hT hb1
  clear hT hb1 H
  go_wp2_with fail
  generalize hTq : W1.heap.size = T at *
  generalize hW2 : W1.alloc (Obj.cells #[.slice (some ⟨b, 0, none⟩) k c2] 25) = W2 at *
  clear hW2 hTq
  have hbd := S1.bn.sizes
  refine (implHome _ _ _ _ w.heap.size T x _ (by have := S1.lt; omega) S1.tree).mono ?_
  rintro e W3 ⟨rfl, hb3⟩
  have S3 := S1.next hb3
  have q3 := S3.t
  clear S1 hb3
  go_wp2_with fail
  refine (implPath _ _ _ _ w.heap.size T x _ (by have := S3.lt; omega) S3.tree).mono ?_
  rintro e W4 ⟨rfl, hb4⟩
  have S4 := S3.next hb4
  have q4 := S4.t
  clear S3 hb4 q3
  go_wp2_with fail
  refine (specHome _ _ _ _ w.heap.size T x _ hbd (by have := S4.lt; omega) S4.tree).mono ?_
  rintro e W5 ⟨rfl, hb5⟩
  have S5 := S4.next hb5
  have q5 := S5.t
  clear S4 hb5 q4
  generalize hh : homeV os x = h at *
  have HH : Hid (homeV os x = h) := hh
  clear hh
  go_wp2_with fail
  refine (specPath _ _ _ _ w.heap.size T x _ hbd (by have := S5.lt; omega) S5.tree).mono ?_
  rintro e W6 ⟨rfl, hb6⟩
  have S6 := S5.next hb6
  have q6 := S6.t
  clear S5 hb6 q5
  generalize hp : pathV os x = ps at *
  have HP : Hid (pathV os x = ps) := hp
  clear hp
  go_wp2_with fail
  refine (specTreeOk _ _ _ _ w.heap.size T _ hbd (by have := S6.lt; omega) S6.tree).mono ?_
  rintro e W7 ⟨rfl, hb7⟩
  have S7 := S6.next hb7
  have q7 := S7.t
  clear S6 hb7 q6
  cases hs : specOk os
  · obtain rfl : h = -1 := by rw [← HH.out]; exact homeV_no hs x
    obtain rfl : ps = ⟨#[]⟩ := by rw [← HP.out]; exact pathV_no hs x
    clear hs HH HP
    go_wp2_with fail
    go_ret
    exact ⟨rfl, S7.below⟩
  · have HS : Hid (specOk os = true) := hs
    clear hs
    by_cases hneg : h < 0
    · have hps : ps = ⟨#[]⟩ ∨ ps = ⟨#[47]⟩ := by
        rw [← HP.out]
        cases hb : hasB os x with
        | false => exact .inl (pathV_has hb)
        | true =>
          have h1 := fun h => (homeV_iff HS.out x).2 ⟨hb, h⟩
          rw [HH.out] at h1
          have h2 := (has_iff os x).1 hb
          obtain rfl : x = 0 := by omega
          exact .inr (pathV_top HS.out hb)
      rcases hps with rfl | rfl
      · go_wp2_with fail
        go_ret
        exact ⟨rfl, S7.below⟩
      · go_wp2_with fail
        go_ret
        exact ⟨rfl, S7.below⟩
    · have h1 := (homeV_iff HS.out x).1 (by rw [HH.out]; omega)
      obtain ⟨d, kk, o, e, g1, g2, g3, g4, g5, g6, g7, g8⟩ := live_home HS.out h1.1 h1.2
      obtain rfl : h = d := by rw [← HH.out, homeV_yes HS.out]; exact g4
      have HPS : Hid (ps = (if d = 0 then (⟨#[]⟩ : ByteArray) else pathV os d) ++ ⟨#[47]⟩ ++ e.name) := by
        show _ = _
        rw [← HP.out]
        exact pathV_step HS.out h1.1 h1.2 g4 g6 g5
      have HO : Hid (os[d]? = some o ∧ o.kids[kk]? = some e ∧ e.id = x ∧ kidsB o.kids = true ∧ hasB os d = true ∧ o.kind = 2) := ⟨g1, g2, g3, g8, g6, g7⟩
      have hk32 : k = 32 := by rw [S7.tree.len]; exact ((specOk_iff os).1 HS.out).1
      subst hk32
      have hd : d < 32 := by have := (has_iff os d).1 g6; omega
      have hdI : (d : Int) < 32 := by omega
      have hdz : ¬ (d : Int) < 0 := by omega
      clear g1 g2 g3 g4 g5 g6 g7 g8 h1 HH HP hneg
      have hkn := HO.out.1
      have hkl : o.kids.length ≤ 1000 := (S7.bn.at hkn).2.2.2.1
      generalize hkq : o.kids.length = kn at *
      have HKN : Hid (o.kids.length = kn) := hkq
      clear hkn hkq
      go_wp2_with fail
      go_loopg [7, 8] kn (fun g nn i wr => ∃ j : Nat, j ≤ kn ∧ Hid (g = kn - j) ∧ i = .int .i64 j ∧ (∃ z : Nat, nn = .int .i64 z ∧ Hid (z = if kk < j then 1 else 0)) ∧ Hid (LSt w wr T b 32 c2 os))
      case atStart => exact ⟨0, by omega, rfl, rfl, ⟨0, rfl, by show _ = _; simp⟩, S7⟩
      case round =>
        obtain ⟨j, hj, hg, rfl, ⟨z, rfl, hz⟩, HL⟩ := hrel
        obtain ⟨ka, kc, c0, c3, hks, hbT⟩ := HL.out.obj HO.out.1 hd
        rw [HKN.out] at c3
        have q8 := HL.out.t
        have hz8 := HL.out.lt
        have hbl : b < wr.heap.size := by omega
        by_cases hlt : j < kn
        · have hltI : (j : Int) < (kn : Int) := by omega
          obtain ⟨kb, ko, e', rfl, hkb, he', hes, e0, e1⟩ := LSt.kid hks (j := j) (by rw [HKN.out]; exact hlt)
          have hkbl : kb < wr.heap.size := by omega
          by_cases hid : e'.id = x
          · obtain ⟨rfl, rfl⟩ := kid_once HS.out HO.out.1 HO.out.2.1 he' HO.out.2.2.2.1 (by rw [HO.out.2.2.1]; exact hid.symm)
            have tid : (e'.id == x) = true := by simp [hid]
            obtain rfl : z = 0 := by have := hz.out; simp at this; exact this
            have hnm : e'.name.size ≤ 4 := (HL.out.bn.at HO.out.1).2.2.2.2 e' (List.mem_of_getElem? he')
            clear hid he' hks
            go_wp2_with fail
            refine (implPath _ _ _ _ w.heap.size T _ _ (by omega) HL.out.tree).mono ?_
            rintro e9 W9 ⟨rfl, hb9⟩
            have S9 := HL.out.next hb9
            have q9 := S9.t
            have hz9 := S9.lt
            have f3 : W9.cell? ⟨b, d * 4 + 3, none⟩ = some (.slice (some ⟨kb, ko, none⟩) kn kc) := by rw [hb9.cell (by simpa using hbl)]; exact c3
            have f0 : W9.cell? ⟨kb, ko + j * 2, none⟩ = some (.string e'.name) := by rw [hb9.cell (by simpa using hkbl)]; exact e0
            have hbl9 : b < W9.heap.size := by omega
            have hkb9 : kb < W9.heap.size := by omega
            clear HL hb9 q8 c0 c3 e0 e1
            have hul := pathV_len HS.out (d : Int)
            by_cases hd0 : d = 0
            · have tsl : ((pathV os (d : Int)).toList == [47]) = true := by
                rw [show pathV os (d : Int) = ⟨#[47]⟩ by rw [hd0]; exact pathV_top HS.out (top_live HS.out), ByteArray.toList_eq]
                rfl
              have HQ : Hid (ps = ⟨#[]⟩ ++ ⟨#[47]⟩ ++ e'.name) := by
                have := HPS.out
                rwa [if_pos hd0] at this
              generalize pathV os (d : Int) = up at *
              clear hd0
              have tps : (ps.toList == ((⟨#[]⟩ : ByteArray) ++ ⟨#[47]⟩ ++ e'.name).toList) = true := by rw [HQ.out]; simp
              go_wp2_with fail
              go_roundg (kn - (j + 1))
              case measure => have := hg.out; omega
              case rel => exact ⟨j + 1, by omega, rfl, by go_num, ⟨1, rfl, by show _ = _; rw [if_pos (by omega)]⟩, S9⟩
            · have tsl := pathV_slash HS.out HO.out.2.2.2.2.1 hd0
              have HQ : Hid (ps = pathV os (d : Int) ++ ⟨#[47]⟩ ++ e'.name) := by
                have := HPS.out
                rwa [if_neg hd0] at this
              generalize pathV os (d : Int) = up at *
              clear hd0
              have tps : (ps.toList == (up ++ ⟨#[47]⟩ ++ e'.name).toList) = true := by rw [HQ.out]; simp
              go_wp2_with fail
              go_roundg (kn - (j + 1))
              case measure => have := hg.out; omega
              case rel => exact ⟨j + 1, by omega, rfl, by go_num, ⟨1, rfl, by show _ = _; rw [if_pos (by omega)]⟩, S9⟩
          · have tid : (e'.id == x) = false := by simp [hid]
            have HNE : Hid (j ≠ kk) := fun e => hid (by
              rw [e, HO.out.2.1] at he'
              obtain rfl : e' = _ := by simpa using he'.symm
              exact HO.out.2.2.1)
            clear hid he' hks
            go_wp2_with fail
            go_roundg (kn - (j + 1))
            case measure => have := hg.out; omega
            case rel => exact ⟨j + 1, by omega, rfl, by go_num, ⟨z, rfl, by show _ = _; rw [hz.out]; have := HNE.out; split <;> split <;> omega⟩, HL⟩
        · have hltI : ¬ (j : Int) < (kn : Int) := by omega
          have hk2 : o.kind = 2 := HO.out.2.2.2.2.2
          have hkk : kk < j := by have := (List.getElem?_eq_some_iff.1 HO.out.2.1).1; rw [HKN.out] at this; omega
          obtain rfl : z = 1 := by rw [hz.out, if_pos hkk]
          rw [hk2] at c0
          clear hks
          go_wp2_with fail
          go_ret
          exact ⟨rfl, HL.out.below⟩
end Go.Proofs.Ytjenldenggaljaa
