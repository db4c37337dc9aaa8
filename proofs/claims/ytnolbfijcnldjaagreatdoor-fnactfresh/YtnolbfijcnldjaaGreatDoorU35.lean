/- Lemmas that the proofs of this seat share: DrawFresh, FreshP. -/
import Derived.Test.YtnolbfijcnldjaaGreatDoorU14
import Derived.Test.YtnolbfijcnldjaaGreatDoorU28
/- spec.DrawActFresh: a tree that was drawn, and a number. -/
namespace Go.Proofs.YtnolbfijcnldjaaGreatDoor
open Go.RowKit

def DrawnH' (w : World) (e : Ending) (w' : World) : Prop := (∃ b n c os y, e = .returned (.tuple #[.agg #[.slice (some ⟨b, 0, none⟩) n c], .int .i64 y]) ∧ TreeIn w w' b n os) ∧ Below w.heap.size w w'
set_option maxHeartbeats 4000000 in
set_option maxRecDepth 20000 in
theorem drawFresh (a : Option Addr) (n c : Nat) (zs : List Int) (w : World) (hn : n ≤ 1048576) (hc : n ≤ c) (H : BytesAt w w.heap.size a n zs) :
    Calls Tryz.prog 31 #[.slice a n c] w fun e w' => DrawnH' w e w' := by
  go_enter Tryz.func31, Tryz.ntmps31
  go_wp2_with fail
  refine (open16 a n c zs (w.heap.size + 1) _ hn hc (bytes_box H)).mono ?_
  rintro e W1 ⟨m, c', ys, rfl, hm, hm0, hB, rfl⟩
  go_wp2_with fail
  refine (bent_any (w.heap.size + 1) 0 _ (by omega) (by simp) (rd_open hm hB)).mono ?_
  rintro e W2 hE
  obtain ⟨b, k, c2, os, rfl, S2⟩ := DSt.start hE
  clear hE hB H
  have S3 := S2.more (W' := W2.alloc (Obj.cells #[.slice (some ⟨b, 0, none⟩) k c2] 25)) ((Below.refl _ _).alloc (Nat.le_refl _) _)
  have hz2 := S2.rlt2
  have htb : (W2.alloc (Obj.cells #[.slice (some ⟨b, 0, none⟩) k c2] 25)).cell? ⟨W2.heap.size, 0, none⟩ = some (.slice (some ⟨b, 0, none⟩) k c2) := by simp [go_sem]
  have hT : W2.heap.size < (W2.alloc (Obj.cells #[.slice (some ⟨b, 0, none⟩) k c2] 25)).heap.size := by simp
  go_wp2_with fail
  generalize hTq : W2.heap.size = T at *
  generalize hW3 : W2.alloc (Obj.cells #[.slice (some ⟨b, 0, none⟩) k c2] 25) = W3 at *
  clear hW3 hTq S2
  have S4 := S3
  have ht4 := htb
  have hT4 := hT
  clear S3 htb hT
  have hne : T ≠ w.heap.size := by omega
  have S5 := S4.more (W' := W3.drew) (Below.refl _ _).drew
  have S6 := S5.more (W' := W3.drew.alloc (.cells #[.int .i64 0, .int .i64 1, .int .i64 4, .int .i64 8, .int .i64 12, .int .i64 16, .int .i64 31, .int .i64 32, .int .i64 (-1)] 3)) ((Below.refl _ _).alloc (Nat.le_refl _) _)
  have hT5 : T < W3.drew.heap.size := by simpa using hT4
  go_upto_region 3 with fail
  go_region_held3 (fun w' => w'.cell? ⟨T, 0, none⟩ = some (.slice (some ⟨b, 0, none⟩) k c2)) (first | go_keep | with_reducible exact htB | (rw [World.cell?_setCell_other _ _ _ _ (by first | (simp; done) | (simp; omega))]; with_reducible exact htB))
    (first
      | (go_at_call 87; refine (num_to (fun _ => True) (w.heap.size + 1) 160 _ 9 9 _ (by omega) (by omega) (by omega) (by have := S4.rlt2; first | omega | (simp; omega)) S6.rd (by intro i hi; match i, hi with | 0, _ => exact ⟨0, by simp [go_sem], trivial⟩ | 1, _ => exact ⟨1, by simp [go_sem], trivial⟩ | 2, _ => exact ⟨4, by simp [go_sem], trivial⟩ | 3, _ => exact ⟨8, by simp [go_sem], trivial⟩ | 4, _ => exact ⟨12, by simp [go_sem], trivial⟩ | 5, _ => exact ⟨16, by simp [go_sem], trivial⟩ | 6, _ => exact ⟨31, by simp [go_sem], trivial⟩ | 7, _ => exact ⟨32, by simp [go_sem], trivial⟩ | 8, _ => exact ⟨-1, by simp [go_sem], trivial⟩)).mono ?_; rintro e wB ⟨⟨y, rfl, hy⟩, hrB, hbB⟩; have SB := S6.next hbB hrB; have htB : wB.cell? ⟨T, 0, none⟩ = some (.slice (some ⟨b, 0, none⟩) k c2) := (by rw [hbB.cell (by simp; omega) (by simp; omega), ((Below.refl W3.drew.heap.size W3.drew).alloc (Nat.le_refl _) _).cell hT5]; exact ht4); obtain ⟨⟨rv, hr0⟩, hr1, hz⟩ := SB.box))
  all_goals
    go_wp2_with fail
    refine bodyPost_ret (v := .tuple #[.agg #[.slice (some ⟨b, 0, none⟩) k c2], .int .i64 y]) (by rw [results, Tryz.results31]; simp [go_sem, World.cell?_setCell_same _ _ _ hr0]) rfl ?_
    exact ⟨⟨b, k, c2, os, y, rfl, (SB.fin _).1⟩, (SB.fin _).2⟩
end Go.Proofs.YtnolbfijcnldjaaGreatDoor

/- A number that was somebody's is not taken again: plain facts. -/
namespace Go.Proofs.YtnolbfijcnldjaaGreatDoor

def zz : ByteArray := ⟨#[122, 122, 122, 122]⟩
def newO (id : Int) : LOp := ⟨1, 0, zz, 0, ⟨#[]⟩, id, ⟨#[]⟩⟩
def goneO (id : Int) : LOp := ⟨3, 0, zz, 0, ⟨#[]⟩, id, ⟨#[]⟩⟩
theorem nil_emp : (⟨#[]⟩ : ByteArray).toList.isEmpty = true := by rw [Go.ByteArray.toList_eq]; rfl
theorem newO_ok (id : Int) : opOk (newO id) = (decide (1 ≤ id) && decide (id < 32)) := by
  have hw : word zz.data.toList = true := by decide
  unfold opOk newO
  simp only [true_or, if_true, opId, opSlot, opNone2, idB, hw, nil_emp]
  by_cases h1 : 1 ≤ id <;> by_cases h2 : id < 32 <;> simp [h1, h2] <;> omega
theorem goneO_ok (id : Int) : opOk (goneO id) = (decide (1 ≤ id) && decide (id < 32)) := by
  have hw : word zz.data.toList = true := by decide
  unfold opOk goneO
  simp only [or_true, if_true, opId, opSlot, opNone2, idB, hw, nil_emp]
  by_cases h1 : 1 ≤ id <;> by_cases h2 : id < 32 <;> simp [h1, h2] <;> omega
theorem findV_in {es : List LEnt} {x : LEnt} (hx : x ∈ es) (hu : ∀ e ∈ es, e.name = x.name → e.id = x.id) : findV es x.name = x.id := by
  unfold findV
  split
  · rename_i e he
    have h1 := List.mem_of_find?_eq_some he
    have h2 := List.find?_some he
    exact hu e h1 ((sEq_iff _ _).1 h2)
  · rename_i hn
    have := List.find?_eq_none.1 hn x hx
    exact absurd ((sEq_iff _ _).2 rfl) (by simpa using this)
theorem findV_noneE {es : List LEnt} {name : ByteArray} (h : ∀ e ∈ es, e.name ≠ name) : findV es name = -1 := by
  unfold findV
  split
  · rename_i e he
    have h2 := List.find?_some he
    exact absurd ((sEq_iff _ _).1 h2) (h e (List.mem_of_find?_eq_some he))
  · rfl
theorem old_at {os : List LObj} {i : Nat} {x : LObj} (h : os[i]? = some x) : oldB os i = decide (1000000 ≤ x.ver) := by
  unfold oldB; rw [h]
theorem mem_newO {id : Int} (h1 : 1 ≤ id) (h2 : id < 32) {o : LOp} (ho : o.kind ≠ 5 ∧ o.kind ≠ 4 ∧ o.id = id ∧ o.dir = 0) (hk : opOk o = true) {i : Nat} (hi : i ∈ opIds o) : i = 0 ∨ i = id.toNat := by
  rw [opIds_set hk, setL, List.mem_filter] at hi
  obtain ⟨h5, h4, e1, e2⟩ := ho
  have := hi.2
  unfold inSet at this
  rw [e1, e2] at this
  simp [h5, h4] at this
  omega
theorem worn_two {os : List LObj} {id : Int} (h1 : 1 ≤ id) (h2 : id < 32) {o : LOp} (ho : o.kind ≠ 5 ∧ o.kind ≠ 4 ∧ o.id = id ∧ o.dir = 0) (hk : opOk o = true) {d x : LObj} (hd : os[0]? = some d) (hx : os[id.toNat]? = some x) (hdv : d.ver < 1000000) (hxv : x.ver < 1000000) : ¬ wornB os (opIds o) = true := by
  intro h
  unfold wornB at h
  obtain ⟨i, hi, hb⟩ := List.any_eq_true.1 h
  rcases mem_newO h1 h2 ho hk hi with rfl | rfl
  · rw [old_at hd] at hb; simp at hb; omega
  · rw [old_at hx] at hb; simp at hb; omega

structure FreshP (os : List LObj) (id : Int) : Prop where
  iff_ : (actR os (newO id)).2 = 0 ↔ (freshV os id = true ∧ treeFindV os 0 zz < 0)
  gone : (actR os (newO id)).2 = 0 → (actR (actR os (newO id)).1 (goneO id)).2 = 0
  used : (actR os (newO id)).2 = 0 → (actR (actR (actR os (newO id)).1 (goneO id)).1 (newO id)).2 = 7
  no1 : (actR os (newO id)).2 = 0 → freshV (actR os (newO id)).1 id = false
  no2 : (actR os (newO id)).2 = 0 → freshV (actR (actR os (newO id)).1 (goneO id)).1 id = false
  len1 : (actR os (newO id)).1.length = 32
  ok1 : (actR os (newO id)).2 = 0 → specOk (actR os (newO id)).1 = true
  ok2 : (actR os (newO id)).2 = 0 → specOk (actR (actR os (newO id)).1 (goneO id)).1 = true
theorem turnR_len' {os : List LObj} (hs : specOk os = true) (o : LOp) : (actR os o).1.length = 32 := by
  unfold actR
  rw [if_pos hs]
  split
  · rw [actDo_len, ok_len hs]
  · exact ok_len hs
theorem fresh_any {os : List LObj} (hs : specOk os = true) (id : Int) {d : LObj} (hd : os[0]? = some d) (hdv : d.ver ≤ 999997) : FreshP os id := by
  have hlen : (actR os (newO id)).1.length = 32 := turnR_len' hs _
  by_cases hin : 1 ≤ id ∧ id < 32
  case neg =>
    have hno : opOk (newO id) = false := by rw [newO_ok]; by_cases h1 : 1 ≤ id <;> simp [h1]; omega
    have hr : actR os (newO id) = (os, 8) := by unfold actR; rw [if_pos hs, if_neg (by rw [hno]; simp)]
    have hf : freshV os id = false := freshV_out (by omega)
    have h8 : ¬ (actR os (newO id)).2 = 0 := by rw [hr]; simp
    exact ⟨⟨fun h => absurd h h8, fun h => by rw [hf] at h; simp at h⟩, fun h => absurd h h8, fun h => absurd h h8, fun h => absurd h h8, fun h => absurd h h8, hlen, fun h => absurd h h8, fun h => absurd h h8⟩
  obtain ⟨h1, h2⟩ := hin
  have hok : opOk (newO id) = true := by rw [newO_ok]; simp [h1, h2]
  have hokg : opOk (goneO id) = true := by rw [goneO_ok]; simp [h1, h2]
  have hl := ok_len hs
  obtain ⟨x, hx⟩ := at_ (os := os) hl (by omega) h2
  have hxv0 := obj_ver (ok_obj hs hx)
  have hd2 : d.kind = 2 := by have := ok_top hs; rw [show (0 : Nat) = ((0 : Nat)) from rfl, kindOf_at hd] at this; exact this
  have htf : treeFindV os 0 zz = findV d.kids zz := tf_yes hs (k := 0) (by omega) hd zz
  have hfr : freshV os id = (decide (x.kind = 0) && decide (x.ver = 0)) := by
    unfold freshV idB; rw [hs, hx]; simp [h1, h2]; omega
  have hr : actR os (newO id) = actDo os (newO id) := by unfold actR; rw [if_pos hs, if_pos hok]
  have hI : id.toNat ≠ 0 := by omega
  by_cases hxw : x.ver < 1000000
  case neg =>
    have hw : wornB os (opIds (newO id)) = true := by
      unfold wornB
      exact List.any_eq_true.2 ⟨id.toNat, id_in hok, by rw [old_at hx]; simp; omega⟩
    have hr2 : actR os (newO id) = (os, 8) := by rw [hr]; unfold actDo; rw [if_pos hw]
    have h8 : ¬ (actR os (newO id)).2 = 0 := by rw [hr2]; simp
    have hf : freshV os id = false := by rw [hfr]; simp; omega
    exact ⟨⟨fun h => absurd h h8, fun h => by rw [hf] at h; simp at h⟩, fun h => absurd h h8, fun h => absurd h h8, fun h => absurd h h8, fun h => absurd h h8, hlen, fun h => absurd h h8, fun h => absurd h h8⟩
  have hw := worn_two h1 h2 (o := newO id) ⟨by simp [newO], by simp [newO], rfl, rfl⟩ hok hd hx (by omega) hxw
  have hr3 : actR os (newO id) = actNew os (newO id) := by
    rw [hr]; unfold actDo; rw [if_neg hw, if_pos (.inl rfl)]
  by_cases g2 : 0 ≤ findV d.kids zz
  · have hr4 : actR os (newO id) = (os, 3) := by
      rw [hr3]; unfold actNew newO; simp only [Int.toNat_zero, hd, hx]; rw [if_neg (by simp [hd2]), if_pos g2]
    have h8 : ¬ (actR os (newO id)).2 = 0 := by rw [hr4]; simp
    exact ⟨⟨fun h => absurd h h8, fun h => by rw [htf] at h; omega⟩, fun h => absurd h h8, fun h => absurd h h8, fun h => absurd h h8, fun h => absurd h h8, hlen, fun h => absurd h h8, fun h => absurd h h8⟩
  by_cases g3 : x.kind ≠ 0 ∨ 0 < x.ver
  · have hr4 : actR os (newO id) = (os, 7) := by
      rw [hr3]; unfold actNew newO; simp only [Int.toNat_zero, hd, hx]; rw [if_neg (by simp [hd2]), if_neg g2, if_pos g3]
    have h8 : ¬ (actR os (newO id)).2 = 0 := by rw [hr4]; simp
    have hf : freshV os id = false := by rw [hfr]; rcases g3 with g | g <;> simp <;> omega
    exact ⟨⟨fun h => absurd h h8, fun h => by rw [hf] at h; simp at h⟩, fun h => absurd h h8, fun h => absurd h h8, fun h => absurd h h8, fun h => absurd h h8, hlen, fun h => absurd h h8, fun h => absurd h h8⟩
  have hf : freshV os id = true := by rw [hfr]; simp; omega
  obtain ⟨d1, hd1⟩ : ∃ d1 : LObj, d1 = { d with kids := putL ⟨zz, id⟩ d.kids, ver := d.ver + 1 } := ⟨_, rfl⟩
  obtain ⟨x1, hx1⟩ : ∃ x1 : LObj, x1 = (⟨1, 1, ⟨#[]⟩, []⟩ : LObj) := ⟨_, rfl⟩
  have hr4 : actR os (newO id) = ((os.set id.toNat x1).set 0 d1, 0) := by
    rw [hr3, hd1, hx1]; unfold actNew newO; simp only [Int.toNat_zero, hd, hx]; rw [if_neg (by simp [hd2]), if_neg g2, if_neg g3]; rfl
  have h0 : (actR os (newO id)).2 = 0 := by rw [hr4]
  obtain ⟨o1, ho1⟩ : ∃ o1, o1 = (os.set id.toNat x1).set 0 d1 := ⟨_, rfl⟩
  have hs1 : specOk o1 = true := by
    have := act_ok hs hok (by rw [← hr]; exact h0)
    rw [← hr, hr4] at this; rw [ho1]; exact this
  have a0 : o1[0]? = some d1 := by rw [ho1]; exact set_self (by simp [hl])
  have aI : o1[id.toNat]? = some x1 := by rw [ho1, List.getElem?_set_ne (Ne.symm hI)]; exact set_self (by rw [hl]; omega)
  have hnm : ∀ e ∈ d.kids, e.name ≠ zz := find_no g2 (ents_pos hs hd)
  have hfi : findV d1.kids zz = id := by
    rw [hd1]
    refine findV_in (x := ⟨zz, id⟩) ((mem_put _ _ _).2 (.inl rfl)) fun e he hn => ?_
    rcases (mem_put _ _ _).1 he with rfl | he
    · rfl
    · exact absurd hn (hnm e he)
  have hw1 := worn_two h1 h2 (o := goneO id) ⟨by simp [goneO], by simp [goneO], rfl, rfl⟩ hokg a0 aI (by rw [hd1]; show d.ver + 1 < _; omega) (by rw [hx1]; decide)
  obtain ⟨d2, hd2'⟩ : ∃ d2 : LObj, d2 = { d1 with kids := outL zz d1.kids, ver := d1.ver + 1 } := ⟨_, rfl⟩
  obtain ⟨x2, hx2⟩ : ∃ x2 : LObj, x2 = (⟨0, 1 + 1, ⟨#[]⟩, []⟩ : LObj) := ⟨_, rfl⟩
  have q0 : actR o1 (goneO id) = actDo o1 (goneO id) := by unfold actR; rw [if_pos hs1, if_pos hokg]
  have q1 : actR o1 (goneO id) = ((o1.set 0 d2).set id.toNat x2, 0) := by
    rw [q0]; unfold actDo; rw [if_neg hw1, if_neg (by simp [goneO]), if_pos (show (goneO id).kind = 3 from rfl)]
    unfold actGone goneO; simp only [Int.toNat_zero, a0, aI]
    rw [if_neg (by rw [hd1]; simpa using hd2), if_neg (by simpa using hfi), if_neg (by rw [hx1]; simp), hd2', hx2, hx1]
  obtain ⟨o2, ho2⟩ : ∃ o2, o2 = (o1.set 0 d2).set id.toNat x2 := ⟨_, rfl⟩
  have hs2 : specOk o2 = true := by
    have := act_ok hs1 hokg (by rw [← q0, q1])
    rw [← q0, q1] at this; rw [ho2]; exact this
  have hl1 := ok_len hs1
  have b0 : o2[0]? = some d2 := by rw [ho2, List.getElem?_set_ne hI]; exact set_self (by rw [hl1]; omega)
  have bI : o2[id.toNat]? = some x2 := by rw [ho2]; exact set_self (by simp [hl1]; omega)
  have hw2 := worn_two h1 h2 (o := newO id) ⟨by simp [newO], by simp [newO], rfl, rfl⟩ hok b0 bI (by rw [hd2', hd1]; show d.ver + 1 + 1 < _; omega) (by rw [hx2]; decide)
  have u0 : actR o2 (newO id) = (o2, 7) := by
    unfold actR; rw [if_pos hs2, if_pos hok]; unfold actDo; rw [if_neg hw2, if_pos (.inl rfl)]
    unfold actNew newO; simp only [Int.toNat_zero, b0, bI]
    rw [if_neg (by rw [hd2', hd1]; simpa using hd2), if_neg (by rw [hd2', findV_noneE (fun e he => ((mem_out _ _ _).1 he).2)]; decide), if_pos (by rw [hx2]; decide)]
  rw [← ho1] at hr4
  rw [← ho2] at q1
  have e1 : (actR os (newO id)).1 = o1 := by rw [hr4]
  have e2 : (actR o1 (goneO id)).1 = o2 := by rw [q1]
  refine ⟨⟨fun _ => ⟨hf, by rw [htf]; omega⟩, fun _ => h0⟩, fun _ => by rw [e1, q1], fun _ => by rw [e1, e2, u0], fun _ => ?_, fun _ => ?_, hlen, fun _ => by rw [e1]; exact hs1, fun _ => by rw [e1, e2]; exact hs2⟩
  · rw [e1]; unfold freshV; rw [aI, hx1]; simp
  · rw [e1, e2]; unfold freshV; rw [bI, hx2]; simp
end Go.Proofs.YtnolbfijcnldjaaGreatDoor
