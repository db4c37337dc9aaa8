/- Lemmas that the proofs of this seat share: OpDraw, Rop. -/
import Derived.Test.YtnolbfijcnldjaaGreatDoorW01
import Derived.Test.YtnolbfijcnldjaaGreatDoorW05
import Derived.Deep.RegionHeld3
import Derived.Test.YtnolbfijcnldjaaGreatDoorW02
/- Drawing something that is done: only bounds are told of it. -/
namespace Go.Proofs.YtnolbfijcnldjaaGreatDoor
open Go.RowKit

/-- In the midst of a draw: the boxes of the call, the reader, the tree. -/
structure OSt (A : Nat) (w W : World) (rb p : Nat) (a : Option Addr) (n c : Nat) (os : List LObj) (L : Nat) : Prop where
  but : But rb w W
  rd : RdTo W rb p
  size : A + 1 < W.heap.size
  t : W.cell? ⟨A, 0, none⟩ = some (.slice a n c)
  objs : ObjsAt W L A a n os
  res : ∃ f, W.rowIs (A + 1) 27 7 f
theorem OSt.next {A : Nat} {w W W' : World} {rb p p' : Nat} {a : Option Addr} {n c : Nat} {os : List LObj} {L : Nat} (h : OSt A w W rb p a n c os L) (hrA : rb < A) (hrL : rb < L) (hb : But rb W W') (hr : RdTo W' rb p') : OSt A w W' rb p' a n c os L := by
  obtain ⟨f, hf⟩ := h.res
  have hs := h.size
  exact ⟨h.but.trans hb, hr, by have := hb.below.size; omega, by rw [hb.cell (by simp; omega) (by simp; omega)]; exact h.t, h.objs.but hb hrL (by omega), ⟨f, hf.of_block (hb.block _ (by omega) hf.lt)⟩⟩
theorem RdTo.but {w w' : World} {rb p : Nat} (h : RdTo w rb p) (hb : Below w.heap.size w w') (hr : rb < w.heap.size) : RdTo w' rb p := by
  obtain ⟨q, hq, R⟩ := h
  exact ⟨q, hq, R.below hb hr⟩
theorem OSt.more {A : Nat} {w W W' : World} {rb p : Nat} {a : Option Addr} {n c : Nat} {os : List LObj} {L : Nat} (h : OSt A w W rb p a n c os L) (hrA : rb < A) (hrL : rb < L) (hb : Below W.heap.size W W') : OSt A w W' rb p a n c os L :=
  h.next hrA hrL (But.of_below (by have := h.size; omega) hb) (h.rd.but hb (by have := h.size; omega))
/-- Something that is done whose names and text are short. -/
def OpSm (o : LOp) : Prop := o.name.size ≤ 4 ∧ o.name2.size ≤ 4 ∧ o.text.size ≤ 4
/-- What a draw of something that is done leaves. -/
def OpEnd (w : World) (rb p : Nat) (e : Ending) (w' : World) : Prop := (∃ o : LOp, e = .returned (.agg o.val) ∧ OpSm o) ∧ RdTo w' rb p ∧ But rb w w'

/-- The calls of the reader, at a reader that is at most so far. -/
theorem pick_to (rb P q : Nat) (w : World) (hp : P ≤ 999999) (hq : 1 ≤ q) (hq2 : q ≤ 1000000) (H : RdTo w rb P) :
    Calls Tryz.prog 60 #[.pointer (some ⟨rb, 0, none⟩), .int .i64 q] w fun e w' => (∃ x : Nat, e = .returned (.int .i64 x) ∧ x < q) ∧ RdTo w' rb (P + 1) ∧ But rb w w' := by
  obtain ⟨p, hpP, R⟩ := H
  exact (pick_rd rb p q w (by omega) hq hq2 R).mono (by rintro e w' ⟨h1, h2, h3⟩; exact ⟨h1, ⟨_, by omega, h2⟩, h3.but⟩)
theorem num_to (G : Int → Prop) (rb P lb q c : Nat) (w : World) (hp : P ≤ 999999) (hq : 1 ≤ q) (hq2 : q ≤ 1000000) (hlb : lb ≠ rb) (H : RdTo w rb P) (hc : ∀ i, i < q → ∃ z : Int, w.cell? ⟨lb, i, none⟩ = some (.int .i64 z) ∧ G z) :
    Calls Tryz.prog 87 #[.pointer (some ⟨rb, 0, none⟩), .slice (some ⟨lb, 0, none⟩) q c] w fun e w' => NumEnd G e ∧ RdTo w' rb (P + 1) ∧ But rb w w' := by
  obtain ⟨p, hpP, R⟩ := H
  exact (num_any G rb p lb q c w (by omega) hq hq2 hlb R hc).mono (by rintro e w' ⟨h1, h2, h3⟩; exact ⟨h1, ⟨_, by omega, h2⟩, h3.but⟩)
theorem of_to (rb P lb q c M : Nat) (w : World) (hp : P ≤ 999999) (hq : 1 ≤ q) (hq2 : q ≤ 1000000) (hlb : lb ≠ rb) (H : RdTo w rb P) (hc : ∀ i, i < q → ∃ s : ByteArray, w.cell? ⟨lb, i, none⟩ = some (.string s) ∧ s.size ≤ M) :
    Calls Tryz.prog 114 #[.pointer (some ⟨rb, 0, none⟩), .slice (some ⟨lb, 0, none⟩) q c] w fun e w' => OfEnd M e ∧ RdTo w' rb (P + 1) ∧ But rb w w' := by
  obtain ⟨p, hpP, R⟩ := H
  exact (of_any rb p lb q c M w (by omega) hq hq2 hlb R hc).mono (by rintro e w' ⟨h1, h2, h3⟩; exact ⟨h1, ⟨_, by omega, h2⟩, h3.but⟩)
theorem dir_to (rb P : Nat) (a : Option Addr) (n c : Nat) (os : List LObj) (L U : Nat) (w : World) (hp : P ≤ 999990) (hn : n ≤ 32) (hU : U ≤ w.heap.size) (H : ObjsAt w L U a n os) (R : RdTo w rb P) :
    Calls Tryz.prog 165 #[.pointer (some ⟨rb, 0, none⟩), .agg #[.slice a n c]] w fun e w' => NumEnd (fun z => 0 ≤ z ∧ z < 32) e ∧ RdTo w' rb (P + 2) ∧ But rb w w' := by
  obtain ⟨p, hpP, R⟩ := R
  exact (dir_any rb p a n c os L U w (by omega) hn hU H R).mono (by rintro e w' ⟨h1, ⟨q, hq, h2⟩, h3⟩; exact ⟨h1, ⟨q, by omega, h2⟩, h3⟩)
theorem id_to (rb P : Nat) (a : Option Addr) (n c : Nat) (os : List LObj) (L U : Nat) (who : Int) (w : World) (hp : P ≤ 999990) (hn : n ≤ 32) (hn1 : 1 ≤ n) (hU : U ≤ w.heap.size) (H : ObjsAt w L U a n os) (R : RdTo w rb P) :
    Calls Tryz.prog 166 #[.pointer (some ⟨rb, 0, none⟩), .agg #[.slice a n c], .int .i64 who] w fun e w' => NumEnd (fun z => 1 ≤ z ∧ z < 32) e ∧ RdTo w' rb (P + 1) ∧ But rb w w' := by
  obtain ⟨p, hpP, R⟩ := R
  exact (id_any rb p a n c os L U who w (by omega) hn hn1 hU H R).mono (by rintro e w' ⟨h1, ⟨q, hq, h2⟩, h3⟩; exact ⟨h1, ⟨q, by omega, h2⟩, h3⟩)

/-- The answer is put into its box. -/
theorem OSt.done {A : Nat} {w W : World} {rb p P : Nat} {a : Option Addr} {n c : Nat} {os : List LObj} {L : Nat} (h : OSt A w W rb p a n c os L) (hA : w.heap.size = A) (hrA : rb < A) (hp : p ≤ P) (o : LOp) (hs : OpSm o) (v0 v1 v2 v3 v4 v5 v6 : Value) :
    OpEnd w rb P (.returned (.agg o.val)) (((((((W.setCell ⟨A + 1, 0, none⟩ v0).setCell ⟨A + 1, 1, none⟩ v1).setCell ⟨A + 1, 2, none⟩ v2).setCell ⟨A + 1, 3, none⟩ v3).setCell ⟨A + 1, 4, none⟩ v4).setCell ⟨A + 1, 5, none⟩ v5).setCell ⟨A + 1, 6, none⟩ v6) := by
  have hb : Below A W (((((((W.setCell ⟨A + 1, 0, none⟩ v0).setCell ⟨A + 1, 1, none⟩ v1).setCell ⟨A + 1, 2, none⟩ v2).setCell ⟨A + 1, 3, none⟩ v3).setCell ⟨A + 1, 4, none⟩ v4).setCell ⟨A + 1, 5, none⟩ v5).setCell ⟨A + 1, 6, none⟩ v6) :=
    (((((((Below.refl A W).setCell (Nat.le_succ A) _).setCell (Nat.le_succ A) _).setCell (Nat.le_succ A) _).setCell (Nat.le_succ A) _).setCell (Nat.le_succ A) _).setCell (Nat.le_succ A) _).setCell (Nat.le_succ A) _
  obtain ⟨q, hq, R⟩ := h.rd
  refine ⟨⟨o, rfl, hs⟩, ⟨q, by omega, R.below hb hrA⟩, ⟨h.but.below.trans (hb.mono (by omega)), fun k h1 h2 => ?_⟩⟩
  rw [hb.block k (by omega)]
  exact h.but.block k h1 h2
theorem OpEnd.alloc {w W : World} {rb P : Nat} {e : Ending} (h : OpEnd w rb P e W) (hr : rb < w.heap.size) (ob : Obj) : OpEnd w rb P e (W.alloc ob) := by
  obtain ⟨h1, h2, h3⟩ := h
  have hb : Below W.heap.size W (W.alloc ob) := (Below.refl _ _).alloc (Nat.le_refl _) _
  have hs := h3.below.size
  exact ⟨h1, h2.but hb (by omega), h3.trans (But.of_below (by omega) hb)⟩
theorem sz_empty : (⟨#[]⟩ : ByteArray).size ≤ 4 := Nat.zero_le _
/-- Few names, and short ones. -/
def Few (os : List LObj) : Prop := ∀ o ∈ os, o.kids.length ≤ 1000000 ∧ ∀ e ∈ o.kids, e.name.size ≤ 4

set_option maxHeartbeats 4000000 in
set_option maxRecDepth 20000 in
theorem op_any (rb p : Nat) (a : Option Addr) (c : Nat) (os : List LObj) (L : Nat) (who : Int) (w : World) (hp : p ≤ 999900) (hrw : rb < w.heap.size) (hrL : rb < L) (hS : Few os) (H : ObjsAt w L w.heap.size a 32 os) (R : RdTo w rb p) :
    Calls Tryz.prog 115 #[.pointer (some ⟨rb, 0, none⟩), .agg #[.slice a 32 c], .int .i64 who] w fun e w' => OpEnd w rb (p + 9) e w' := by
  have S0 : OSt w.heap.size w ((w.alloc (.cells #[.slice a 32 c] 25)).alloc (.cells #[.int .i64 0, .int .i64 0, .string ⟨#[]⟩, .int .i64 0, .string ⟨#[]⟩, .int .i64 0, .string ⟨#[]⟩] 27)) rb p a 32 c os L := by
    have hb : Below w.heap.size w ((w.alloc (.cells #[.slice a 32 c] 25)).alloc (.cells #[.int .i64 0, .int .i64 0, .string ⟨#[]⟩, .int .i64 0, .string ⟨#[]⟩, .int .i64 0, .string ⟨#[]⟩] 27)) := ((Below.refl _ _).alloc (Nat.le_refl _) _).alloc (by simp) _
    exact ⟨But.of_below hrw hb, R.but hb hrw, by simp, by simp [go_sem], H.below hb (Nat.le_refl _), ⟨_, by simpa using World.rowIs_alloc (w.alloc (.cells #[.slice a 32 c] 25)) #[.int .i64 0, .int .i64 0, .string ⟨#[]⟩, .int .i64 0, .string ⟨#[]⟩, .int .i64 0, .string ⟨#[]⟩] 27 (fun i => #[Value.int .i64 0, .int .i64 0, .string ⟨#[]⟩, .int .i64 0, .string ⟨#[]⟩, .int .i64 0, .string ⟨#[]⟩][i]?.getD default) (fun i hi => by rw [Array.getElem?_eq_getElem hi]; rfl)⟩⟩
  have HS : Hid (Few os) := hS
  clear H R hS
  go_enter Tryz.func115, Tryz.ntmps115
  go_wp2_with fail
  refine (dir_to rb p a 32 c os L w.heap.size _ (by omega) (Nat.le_refl _) (by simp; omega) S0.objs S0.rd).mono ?_
  rintro e W1 ⟨⟨d, rfl, hd⟩, hr1, hb1⟩
  have S1 := S0.next hrw hrL hb1 hr1
  clear S0 hb1 hr1
  have q1 := S1.t
  have hz1 := S1.size
  go_wp2_with fail
  refine (dir_to rb (p + 2) a 32 c os L w.heap.size _ (by omega) (Nat.le_refl _) (by omega) S1.objs S1.rd).mono ?_
  rintro e W2 ⟨⟨d2, rfl, hd2⟩, hr2, hb2⟩
  have S2 := S1.next hrw hrL hb2 hr2
  clear S1 hb2 hr2 q1 hz1
  obtain ⟨dn, rfl⟩ : ∃ dn : Nat, d = dn := ⟨d.toNat, by omega⟩
  have hdn : dn < 32 := by omega
  have hdI : (dn : Int) < 32 := by omega
  obtain ⟨ob, off, ha, hLo, hbU, hc⟩ := S2.objs.at_ (by omega)
  subst ha
  obtain ⟨x, ka, kn, kc, hx, hts, c0, c1, c2, c3, hks⟩ := hc dn hdn
  have q2 := S2.t
  have hz2 := S2.size
  have hkmax : kn ≤ 1000000 := by rw [hks.len]; exact (HS.out x (List.mem_of_getElem? hx)).1
  have HSK : Hid (∀ e ∈ x.kids, e.name.size ≤ 4) := (HS.out x (List.mem_of_getElem? hx)).2
  have hkb := hks.bd
  clear hc c0 c1 c2 hts
  go_wp2_with fail
  refine (pick_to rb (p + 2 + 2) 10 _ (by omega) (by omega) (by omega) S2.rd).mono ?_
  rintro e W3 ⟨⟨k, rfl, hk⟩, hr3, hb3⟩
  have S3 := S2.next hrw hrL hb3 hr3
  have hks3 := hks.but hb3 hrL (by omega)
  clear S2 hb3 hr3 q2 hz2 c3 hks
  have q3 := S3.t
  have hz3 := S3.size
  obtain ⟨rf, hrf⟩ := S3.res
  have HRF : Hid (W3.rowIs (w.heap.size + 1) 27 7 rf) := hrf
  have HX : Hid (os[dn]? = some x) := hx
  have HKS : Hid (EntsAt W3 L w.heap.size ka kn x.kids) := hks3
  have hkI : (k : Int) < 10 := by omega
  have hkz : (0 : Int) ≤ (k : Int) := by omega
  clear hx hks3 hrf
  by_cases hcA : k < 3 ∨ (k < 6 ∧ kn = 0)
  · have ht : ((k : Int) < 3) ∨ (¬ ((k : Int) < 3) ∧ (k : Int) < 6 ∧ ((kn : Int) == 0) = true) := by
      by_cases h3 : k < 3
      · exact .inl (by omega)
      · exact .inr ⟨by omega, by omega, by simp; omega⟩
    clear hcA
    rcases ht with h3 | ⟨h3, h6, hkn⟩
    all_goals
      go_upto_region 6 with fail
      go_region_held3 (fun w' => w'.cell? ⟨w.heap.size, 0, none⟩ = some (.slice (some ⟨ob, off, none⟩) 32 c)) (first | go_keep | exact SC.t | exact SB.t | exact SA.t | (repeat rw [World.cell?_setCell_other _ _ _ _ (by simp)]; exact SC.t) | exact (SA.more hrw hrL (by repeat (first | with_reducible exact Below.refl _ _ | refine Below.drew ?_ | refine Below.alloc ?_ (by simp <;> omega) _))).t | exact (S3.more hrw hrL (by repeat (first | with_reducible exact Below.refl _ _ | refine Below.drew ?_ | refine Below.alloc ?_ (by simp <;> omega) _))).t | exact (S5.more hrw hrL (by repeat (first | with_reducible exact Below.refl _ _ | refine Below.drew ?_ | refine Below.alloc ?_ (by simp <;> omega) _))).t)
        (first
          | (go_at_call 87; refine (num_to (fun z => 1 ≤ z ∧ z ≤ 2) rb (p + 2 + 2 + 1) _ 3 3 _ (by omega) (by omega) (by omega) (by first | omega | (simp; omega)) (S3.more hrw hrL (by repeat (first | with_reducible exact Below.refl _ _ | refine Below.drew ?_ | refine Below.alloc ?_ (by simp <;> omega) _))).rd (by intro i hi; match i, hi with | 0, _ => exact ⟨1, by simp [go_sem], by omega, by omega⟩ | 1, _ => exact ⟨1, by simp [go_sem], by omega, by omega⟩ | 2, _ => exact ⟨2, by simp [go_sem], by omega, by omega⟩)).mono ?_; rintro e wA ⟨⟨z, rfl, hz⟩, hrA, hbA⟩; have SA := (S3.more hrw hrL (by repeat (first | with_reducible exact Below.refl _ _ | refine Below.drew ?_ | refine Below.alloc ?_ (by simp <;> omega) _))).next hrw hrL hbA hrA; have szA := SA.size)
          | (go_at_call 114; refine (of_to rb (p + 2 + 2 + 1 + 1) _ 6 6 1 _ (by omega) (by omega) (by omega) (by first | omega | (simp; omega)) (SA.more hrw hrL (by repeat (first | with_reducible exact Below.refl _ _ | refine Below.drew ?_ | refine Below.alloc ?_ (by simp <;> omega) _))).rd (by intro i hi; match i, hi with | 0, _ => exact ⟨⟨#[97]⟩, by first | (simp [go_sem]; done) | (rw [hbA.cell (by simp <;> omega) (by simp <;> omega)]; simp [go_sem]; done), by simp [ByteArray.size]⟩ | 1, _ => exact ⟨⟨#[98]⟩, by first | (simp [go_sem]; done) | (rw [hbA.cell (by simp <;> omega) (by simp <;> omega)]; simp [go_sem]; done), by simp [ByteArray.size]⟩ | 2, _ => exact ⟨⟨#[99]⟩, by first | (simp [go_sem]; done) | (rw [hbA.cell (by simp <;> omega) (by simp <;> omega)]; simp [go_sem]; done), by simp [ByteArray.size]⟩ | 3, _ => exact ⟨⟨#[100]⟩, by first | (simp [go_sem]; done) | (rw [hbA.cell (by simp <;> omega) (by simp <;> omega)]; simp [go_sem]; done), by simp [ByteArray.size]⟩ | 4, _ => exact ⟨⟨#[101]⟩, by first | (simp [go_sem]; done) | (rw [hbA.cell (by simp <;> omega) (by simp <;> omega)]; simp [go_sem]; done), by simp [ByteArray.size]⟩ | 5, _ => exact ⟨⟨#[102]⟩, by first | (simp [go_sem]; done) | (rw [hbA.cell (by simp <;> omega) (by simp <;> omega)]; simp [go_sem]; done), by simp [ByteArray.size]⟩)).mono ?_; rintro e wB ⟨⟨sB, rfl, hsB⟩, hrB, hbB⟩; have SB := (SA.more hrw hrL (by repeat (first | with_reducible exact Below.refl _ _ | refine Below.drew ?_ | refine Below.alloc ?_ (by simp <;> omega) _))).next hrw hrL hbB hrB; have szB := SB.size; have tB := SB.t)
          | (go_at_call 166; refine (id_to rb (p + 2 + 2 + 1 + 1 + 1) (some ⟨ob, off, none⟩) 32 c os L w.heap.size who _ (by omega) (Nat.le_refl _) (by omega) (by omega) SB.objs SB.rd).mono ?_; rintro e wC ⟨⟨zC, rfl, hzC⟩, hrC0, hbC⟩; have SC := SB.next hrw hrL hbC hrC0; have szC := SC.size; have tC := SC.t; obtain ⟨fC, hrC⟩ := SC.res; have g0 := hrC.cell (i := 0) (by omega); have z0 := hrC.frozen 0; have g1 := hrC.cell (i := 1) (by omega); have z1 := hrC.frozen 1; have g2 := hrC.cell (i := 2) (by omega); have z2 := hrC.frozen 2; have g3 := hrC.cell (i := 3) (by omega); have z3 := hrC.frozen 3; have g4 := hrC.cell (i := 4) (by omega); have z4 := hrC.frozen 4; have g5 := hrC.cell (i := 5) (by omega); have z5 := hrC.frozen 5; have g6 := hrC.cell (i := 6) (by omega); have z6 := hrC.frozen 6; clear hrC))
      all_goals
        go_wp2_with fail
        refine bodyPost_ret (v := .agg (LOp.val ⟨z, dn, sB, 0, ⟨#[]⟩, zC, ⟨#[]⟩⟩)) (by rw [results, Tryz.results115]; simp [go_sem, LOp.val, g0, g1, g2, g3, g4, g5, g6]) rfl ?_
        exact SC.done rfl hrw (by omega) ⟨z, dn, sB, 0, ⟨#[]⟩, zC, ⟨#[]⟩⟩ ⟨Nat.le_trans hsB (by omega), sz_empty, sz_empty⟩ _ _ _ _ _ _ _
  have h3 : ¬ ((k : Int) < 3) := by omega
  have hkn6 : k < 6 → ((kn : Int) == 0) = false := fun h => by simp; omega
  have hkn7 : k < 6 → 0 < kn := fun h => by omega
  clear hcA
  by_cases h5 : k < 5
  · have t5 : (k : Int) < 5 := by omega
    have t6 : (k : Int) < 6 := by omega
    have tkn := hkn6 (by omega)
    have hkn0 := hkn7 (by omega)
    clear hkn6 hkn7
    go_wp2_with fail
    refine (pick_to rb (p + 2 + 2 + 1) kn _ (by omega) (by omega) hkmax S3.rd).mono ?_
    rintro e W4 ⟨⟨y, rfl, hy⟩, hr4, hb4⟩
    have S4 := S3.next hrw hrL hb4 hr4
    have hks4 := HKS.out.but hb4 hrL (by omega)
    obtain ⟨kb, ko, hka, hkL, hkU, hkc⟩ := hks4.at_ (by omega)
    subst hka
    obtain ⟨xe, hxe, hxs, e0, e1⟩ := hkc y hy
    have hx4 : xe.name.size ≤ 4 := HSK.out xe (List.mem_of_getElem? hxe)
    have hyI : (y : Int) < (kn : Int) := by omega
    have hkbl : kb < W4.heap.size := by have := S4.size; omega
    have q4 := S4.t
    have hz4 := S4.size
    have S5 := S4.more hrw hrL (W' := W4.alloc (Obj.cells #[.string xe.name, .int .i64 xe.id] 53)) ((Below.refl _ _).alloc (Nat.le_refl _) _)
    obtain ⟨fC, hrC⟩ := S5.res
    have g0 := hrC.cell (i := 0) (by omega)
    have z0 := hrC.frozen 0
    have g1 := hrC.cell (i := 1) (by omega)
    have z1 := hrC.frozen 1
    have g2 := hrC.cell (i := 2) (by omega)
    have z2 := hrC.frozen 2
    have g3 := hrC.cell (i := 3) (by omega)
    have z3 := hrC.frozen 3
    have g4 := hrC.cell (i := 4) (by omega)
    have z4 := hrC.frozen 4
    have g5 := hrC.cell (i := 5) (by omega)
    have z5 := hrC.frozen 5
    have g6 := hrC.cell (i := 6) (by omega)
    have z6 := hrC.frozen 6
    have hz5 := S5.size
    have u0 : (W4.alloc (Obj.cells #[.string xe.name, .int .i64 xe.id] 53)).cell? ⟨W4.heap.size, 0, none⟩ = some (.string xe.name) := by simp [go_sem]
    have u1 : (W4.alloc (Obj.cells #[.string xe.name, .int .i64 xe.id] 53)).cell? ⟨W4.heap.size, 1, none⟩ = some (.int .i64 xe.id) := by simp [go_sem]
    have hw5 : W4.heap.size < (W4.alloc (Obj.cells #[.string xe.name, .int .i64 xe.id] 53)).heap.size := by simp
    clear hkc hrC S3 HKS HRF hb4 hr4 hxe hks4
    go_upto_region 9 with fail
    generalize hW5 : W4.alloc (Obj.cells #[.string xe.name, .int .i64 xe.id] 53) = W5 at *
    clear hW5 e0 e1 q4
    go_wp2_with fail
    refine bodyPost_ret (v := .agg (LOp.val ⟨3, dn, xe.name, 0, ⟨#[]⟩, xe.id, ⟨#[]⟩⟩)) (by rw [results, Tryz.results115]; simp [go_sem, LOp.val, g0, g1, g2, g3, g4, g5, g6]) rfl ?_
    exact S5.done rfl hrw (by omega) ⟨3, dn, xe.name, 0, ⟨#[]⟩, xe.id, ⟨#[]⟩⟩ ⟨hx4, sz_empty, sz_empty⟩ _ _ _ _ _ _ _
  have h5' : ¬ ((k : Int) < 5) := by omega
  by_cases hC : k < 7 ∧ 0 < kn
  · obtain ⟨h7, hkn0⟩ := hC
    have t7 : (k : Int) < 7 := by omega
    have tkn : ((kn : Int) == 0) = false := by simp; omega
    have tkp : (0 : Int) < (kn : Int) := by omega
    clear hkn6 hkn7
    have ht6 : (k : Int) < 6 ∨ ¬ (k : Int) < 6 := by omega
    rcases ht6 with t6 | t6
    all_goals
      go_wp2_with fail
      refine (pick_to rb (p + 2 + 2 + 1) kn _ (by omega) (by omega) hkmax S3.rd).mono ?_
      rintro e W4 ⟨⟨y, rfl, hy⟩, hr4, hb4⟩
      have S4 := S3.next hrw hrL hb4 hr4
      have hks4 := HKS.out.but hb4 hrL (by omega)
      obtain ⟨kb, ko, hka, hkL, hkU, hkc⟩ := hks4.at_ (by omega)
      subst hka
      obtain ⟨xe, hxe, hxs, e0, e1⟩ := hkc y hy
      have hx4 : xe.name.size ≤ 4 := HSK.out xe (List.mem_of_getElem? hxe)
      have hyI : (y : Int) < (kn : Int) := by omega
      have hkbl : kb < W4.heap.size := by have := S4.size; omega
      have q4 := S4.t
      have hz4 := S4.size
      have S5 := S4.more hrw hrL (W' := W4.alloc (Obj.cells #[.string xe.name, .int .i64 xe.id] 53)) ((Below.refl _ _).alloc (Nat.le_refl _) _)
      have hz5 := S5.size
      have u0 : (W4.alloc (Obj.cells #[.string xe.name, .int .i64 xe.id] 53)).cell? ⟨W4.heap.size, 0, none⟩ = some (.string xe.name) := by simp [go_sem]
      have u1 : (W4.alloc (Obj.cells #[.string xe.name, .int .i64 xe.id] 53)).cell? ⟨W4.heap.size, 1, none⟩ = some (.int .i64 xe.id) := by simp [go_sem]
      have hw5 : W4.heap.size < (W4.alloc (Obj.cells #[.string xe.name, .int .i64 xe.id] 53)).heap.size := by simp
      clear hkc S3 HKS HRF hb4 hr4 hxe hks4
      go_upto_region 12 with fail
      generalize hW5 : W4.alloc (Obj.cells #[.string xe.name, .int .i64 xe.id] 53) = W5 at *
      clear hW5 e0 e1 q4
      go_region_held3 (fun w' => w'.cell? ⟨W4.heap.size, 0, none⟩ = some (.string xe.name) ∧ w'.cell? ⟨W4.heap.size, 1, none⟩ = some (.int .i64 xe.id)) (first | with_reducible exact ⟨u0, u1⟩ | with_reducible exact ⟨vB0, vB1⟩ | (refine ⟨?_, ?_⟩ <;> (rw [World.cell?_setCell_other _ _ _ _ (by simp <;> omega)]; (repeat rw [World.cell?_setCell_other _ _ _ _ (by simp <;> omega)]); with_reducible assumption)) | (refine ⟨?_, ?_⟩ <;> (with_reducible refine Eq.trans (Below.cell (B := W5.heap.size) (w := W5) (by repeat (first | with_reducible exact Below.refl _ _ | refine Below.drew ?_ | refine Below.alloc ?_ (by simp <;> omega) _)) (by simpa using hw5)) ?_) <;> with_reducible assumption))
        (first
          | (go_at_call 114; refine (of_to rb (p + 2 + 2 + 1 + 1) _ 5 5 1 _ (by omega) (by omega) (by omega) (by first | omega | (simp; omega)) (S5.more hrw hrL (by repeat (first | with_reducible exact Below.refl _ _ | refine Below.drew ?_ | refine Below.alloc ?_ (by simp <;> omega) _))).rd (by intro i hi; match i, hi with | 0, _ => exact ⟨⟨#[97]⟩, by first | (simp [go_sem]; done), by simp [ByteArray.size]⟩ | 1, _ => exact ⟨⟨#[98]⟩, by first | (simp [go_sem]; done), by simp [ByteArray.size]⟩ | 2, _ => exact ⟨⟨#[99]⟩, by first | (simp [go_sem]; done), by simp [ByteArray.size]⟩ | 3, _ => exact ⟨⟨#[103]⟩, by first | (simp [go_sem]; done), by simp [ByteArray.size]⟩ | 4, _ => exact ⟨⟨#[104]⟩, by first | (simp [go_sem]; done), by simp [ByteArray.size]⟩)).mono ?_; rintro e wB ⟨⟨sB, rfl, hsB⟩, hrB, hbB⟩; have SB := (S5.more hrw hrL (by repeat (first | with_reducible exact Below.refl _ _ | refine Below.drew ?_ | refine Below.alloc ?_ (by simp <;> omega) _))).next hrw hrL hbB hrB; have szB := SB.size; have tB := SB.t; have vB0 : wB.cell? ⟨W4.heap.size, 0, none⟩ = some (.string xe.name) := (by rw [hbB.cell (by simp <;> omega) (by simp <;> omega)]; exact (Below.cell (B := W5.heap.size) (w := W5) (by repeat (first | with_reducible exact Below.refl _ _ | refine Below.drew ?_ | refine Below.alloc ?_ (by simp <;> omega) _)) (by simpa using hw5)).trans u0); have vB1 : wB.cell? ⟨W4.heap.size, 1, none⟩ = some (.int .i64 xe.id) := (by rw [hbB.cell (by simp <;> omega) (by simp <;> omega)]; exact (Below.cell (B := W5.heap.size) (w := W5) (by repeat (first | with_reducible exact Below.refl _ _ | refine Below.drew ?_ | refine Below.alloc ?_ (by simp <;> omega) _)) (by simpa using hw5)).trans u1); have szZ : W4.heap.size < wB.heap.size := (by have := hbB.below.size; simp at this; omega); obtain ⟨fD, hrD⟩ := SB.res; have g0 := hrD.cell (i := 0) (by omega); have z0 := hrD.frozen 0; have g1 := hrD.cell (i := 1) (by omega); have z1 := hrD.frozen 1; have g2 := hrD.cell (i := 2) (by omega); have z2 := hrD.frozen 2; have g3 := hrD.cell (i := 3) (by omega); have z3 := hrD.frozen 3; have g4 := hrD.cell (i := 4) (by omega); have z4 := hrD.frozen 4; have g5 := hrD.cell (i := 5) (by omega); have z5 := hrD.frozen 5; have g6 := hrD.cell (i := 6) (by omega); have z6 := hrD.frozen 6; clear hrD))
      all_goals
        go_wp2_with fail
        refine bodyPost_ret (v := .agg (LOp.val ⟨4, dn, xe.name, d2, sB, xe.id, ⟨#[]⟩⟩)) (by rw [results, Tryz.results115]; simp [go_sem, LOp.val, g0, g1, g2, g3, g4, g5, g6]) rfl ?_
        exact SB.done rfl hrw (by omega) ⟨4, dn, xe.name, d2, sB, xe.id, ⟨#[]⟩⟩ ⟨hx4, Nat.le_trans hsB (by omega), sz_empty⟩ _ _ _ _ _ _ _
  have hD : (¬ (k : Int) < 6 ∧ ((¬ (k : Int) < 7) ∨ ((k : Int) < 7 ∧ ¬ (0 : Int) < (kn : Int)))) := by
    by_cases h6 : k < 6
    · exact absurd ⟨by omega, hkn7 h6⟩ hC
    · refine ⟨by omega, ?_⟩
      by_cases h7 : k < 7
      · exact .inr ⟨by omega, fun h => hC ⟨h7, by omega⟩⟩
      · exact .inl (by omega)
  obtain ⟨h6, hD⟩ := hD
  clear hkn6 hkn7 hC h5 HKS HRF hkmax hkb HSK
  rcases hD with h7 | ⟨h7, hkn⟩
  all_goals
    go_wp2_with fail
    refine (live_any (some ⟨ob, off, none⟩) 32 c os L w.heap.size 1 _ (by omega) (by omega) S3.objs).mono ?_
    rintro e W4 ⟨⟨v, rfl, hv⟩, hb4⟩
    have S4 := S3.more hrw hrL hb4
    have hz4 := S4.size
    have q4 := S4.t
    clear q3
    by_cases hl : liveL os 1 32 = []
    · have hv' := hv.out
      rw [hl] at hv'
      obtain ⟨ga, gc, rfl⟩ := hv'.nil
      clear hv' hv hl hb4 hz3 S3
      have S3 := S4
      clear S4
      go_upto_region 15 with fail
      go_region_held3 (fun w' => w'.cell? ⟨w.heap.size, 0, none⟩ = some (.slice (some ⟨ob, off, none⟩) 32 c)) (first | go_keep | exact SC.t | exact SB.t | exact S3.t | (repeat rw [World.cell?_setCell_other _ _ _ _ (by simp)]; exact SC.t) | exact (S3.more hrw hrL (by repeat (first | with_reducible exact Below.refl _ _ | refine Below.drew ?_ | refine Below.alloc ?_ (by simp <;> omega) _))).t | exact (S3.more hrw hrL (by repeat (first | with_reducible exact Below.refl _ _ | refine Below.drew ?_ | refine Below.alloc ?_ (by simp <;> omega) _))).t | exact (S5.more hrw hrL (by repeat (first | with_reducible exact Below.refl _ _ | refine Below.drew ?_ | refine Below.alloc ?_ (by simp <;> omega) _))).t)
        (first
          | (go_at_call 114; refine (of_to rb (p + 2 + 2 + 1) _ 3 3 1 _ (by omega) (by omega) (by omega) (by first | omega | (simp; omega)) (S3.more hrw hrL (by repeat (first | with_reducible exact Below.refl _ _ | refine Below.drew ?_ | refine Below.alloc ?_ (by simp <;> omega) _))).rd (by intro i hi; match i, hi with | 0, _ => exact ⟨⟨#[97]⟩, by first | (simp [go_sem]; done), by simp [ByteArray.size]⟩ | 1, _ => exact ⟨⟨#[98]⟩, by first | (simp [go_sem]; done), by simp [ByteArray.size]⟩ | 2, _ => exact ⟨⟨#[120]⟩, by first | (simp [go_sem]; done), by simp [ByteArray.size]⟩)).mono ?_; rintro e wB ⟨⟨sB, rfl, hsB⟩, hrB, hbB⟩; have SB := (S3.more hrw hrL (by repeat (first | with_reducible exact Below.refl _ _ | refine Below.drew ?_ | refine Below.alloc ?_ (by simp <;> omega) _))).next hrw hrL hbB hrB; have szB := SB.size; have tB := SB.t)
          | (go_at_call 166; refine (id_to rb (p + 2 + 2 + 1 + 1) (some ⟨ob, off, none⟩) 32 c os L w.heap.size who _ (by omega) (Nat.le_refl _) (by omega) (by omega) SB.objs SB.rd).mono ?_; rintro e wC ⟨⟨zC, rfl, hzC⟩, hrC0, hbC⟩; have SC := SB.next hrw hrL hbC hrC0; have szC := SC.size; have tC := SC.t; obtain ⟨fC, hrC⟩ := SC.res; have g0 := hrC.cell (i := 0) (by omega); have z0 := hrC.frozen 0; have g1 := hrC.cell (i := 1) (by omega); have z1 := hrC.frozen 1; have g2 := hrC.cell (i := 2) (by omega); have z2 := hrC.frozen 2; have g3 := hrC.cell (i := 3) (by omega); have z3 := hrC.frozen 3; have g4 := hrC.cell (i := 4) (by omega); have z4 := hrC.frozen 4; have g5 := hrC.cell (i := 5) (by omega); have z5 := hrC.frozen 5; have g6 := hrC.cell (i := 6) (by omega); have z6 := hrC.frozen 6; clear hrC))
      all_goals
        go_wp2_with fail
        refine bodyPost_ret (v := .agg (LOp.val ⟨1, dn, sB, 0, ⟨#[]⟩, zC, ⟨#[]⟩⟩)) (by rw [results, Tryz.results115]; simp [go_sem, LOp.val, g0, g1, g2, g3, g4, g5, g6]) rfl ?_
        exact SC.done rfl hrw (by omega) ⟨1, dn, sB, 0, ⟨#[]⟩, zC, ⟨#[]⟩⟩ ⟨Nat.le_trans hsB (by omega), sz_empty, sz_empty⟩ _ _ _ _ _ _ _
    · obtain ⟨g, gc, rfl, hg, hgl, hcells⟩ := hv.out.get hl
      have hlen : 0 < (liveL os 1 32).length := List.length_pos_iff.mpr hl
      have hlen2 := liveL_le os 1 32
      have hgr : g ≠ rb := by omega
      have t0 : (((liveL os 1 32).length : Int) == 0) = false := by simp; omega
      generalize hLL : liveL os 1 32 = LL at *
      have HC : Hid (∀ i, i < LL.length → W4.cell? ⟨g, i, none⟩ = some (Value.int IntKind.i64 ((LL[i]?.getD 0 : Nat) : Int))) := fun i hi => by
        obtain ⟨k', e1, e2⟩ := hcells i hi
        rw [e2, e1]; rfl
      generalize hLf : (fun i : Nat => LL[i]?.getD 0) = Lf at *
      have HC2 : Hid (∀ i, i < LL.length → W4.cell? ⟨g, i, none⟩ = some (Value.int IntKind.i64 ((Lf i : Nat) : Int))) := fun i hi => by rw [← hLf]; exact HC.out i hi
      clear hcells hv hl hLL hb4 S3 HC hLf
      have hg4 : g < W4.heap.size := hgl
      go_upto_region 16 with fail
      have hst : ∀ i, i < LL.length → W4.cell? ⟨g, i, none⟩ = some (Value.int IntKind.i64 ((Lf i : Nat) : Int)) := HC2.out
      go_region_held3 (fun w' => ∀ i, i < LL.length → w'.cell? ⟨g, i, none⟩ = some (Value.int IntKind.i64 ((Lf i : Nat) : Int)))
        (first | with_reducible exact hst | with_reducible exact hfA | with_reducible exact hfB | (intro i hi; rw [World.cell?_setCell_other _ _ _ _ (by simp <;> omega)]; (repeat rw [World.cell?_setCell_other _ _ _ _ (by simp <;> omega)]); with_reducible exact hfB i hi) | (intro i hi; have hq := hfA i hi; with_reducible refine (World.cell?_alloc_some wA _ _ (hq ▸ rfl)).trans hq) | (intro i hi; with_reducible exact (Below.cell (B := W4.heap.size) (w := W4) (by repeat (first | with_reducible exact Below.refl _ _ | refine Below.drew ?_ | refine Below.alloc ?_ (by simp <;> omega) _)) (by simpa using hg4)).trans (hst i hi)))
        (first
          | (go_at_call 60; refine (pick_to rb (p + 2 + 2 + 1) LL.length _ (by omega) (by omega) (by omega) (S4.more hrw hrL (by repeat (first | with_reducible exact Below.refl _ _ | refine Below.drew ?_ | refine Below.alloc ?_ (by simp <;> omega) _))).rd).mono ?_; rintro e wA ⟨⟨y, rfl, hy⟩, hrA, hbA⟩; have SA := (S4.more hrw hrL (by repeat (first | with_reducible exact Below.refl _ _ | refine Below.drew ?_ | refine Below.alloc ?_ (by simp <;> omega) _))).next hrw hrL hbA hrA; have hfA : ∀ i, i < LL.length → wA.cell? ⟨g, i, none⟩ = some (Value.int IntKind.i64 ((Lf i : Nat) : Int)) := (by intro i hi; rw [hbA.cell (by simp <;> omega) (by simp <;> omega)]; exact (Below.cell (B := W4.heap.size) (w := W4) (by repeat (first | with_reducible exact Below.refl _ _ | refine Below.drew ?_ | refine Below.alloc ?_ (by simp <;> omega) _)) (by simpa using hg4)).trans (hst i hi)); have szA := SA.size; have hyI : (y : Int) < (LL.length : Int) := (by omega); have hgA : g < wA.heap.size := (by have := hbA.below.size; simp at this; omega))
          | (go_at_call 114; refine (of_to rb (p + 2 + 2 + 1 + 1) _ 4 4 3 _ (by omega) (by omega) (by omega) (by first | omega | (simp; omega)) (SA.more hrw hrL (by repeat (first | with_reducible exact Below.refl _ _ | refine Below.drew ?_ | refine Below.alloc ?_ (by simp <;> omega) _))).rd (by intro i hi; match i, hi with | 0, _ => exact ⟨⟨#[]⟩, by first | (simp [go_sem]; done) | (rw [hbA.cell (by simp <;> omega) (by simp <;> omega)]; simp [go_sem]; done), by simp [ByteArray.size]⟩ | 1, _ => exact ⟨⟨#[111, 110, 101]⟩, by first | (simp [go_sem]; done) | (rw [hbA.cell (by simp <;> omega) (by simp <;> omega)]; simp [go_sem]; done), by simp [ByteArray.size]⟩ | 2, _ => exact ⟨⟨#[116, 119, 111]⟩, by first | (simp [go_sem]; done) | (rw [hbA.cell (by simp <;> omega) (by simp <;> omega)]; simp [go_sem]; done), by simp [ByteArray.size]⟩ | 3, _ => exact ⟨⟨#[120, 49]⟩, by first | (simp [go_sem]; done) | (rw [hbA.cell (by simp <;> omega) (by simp <;> omega)]; simp [go_sem]; done), by simp [ByteArray.size]⟩)).mono ?_; rintro e wB ⟨⟨sB, rfl, hsB⟩, hrB, hbB⟩; have SB := (SA.more hrw hrL (by repeat (first | with_reducible exact Below.refl _ _ | refine Below.drew ?_ | refine Below.alloc ?_ (by simp <;> omega) _))).next hrw hrL hbB hrB; have szB := SB.size; have tB := SB.t; have hfB : ∀ i, i < LL.length → wB.cell? ⟨g, i, none⟩ = some (Value.int IntKind.i64 ((Lf i : Nat) : Int)) := (by intro i hi; rw [hbB.cell (by simp <;> omega) (by simp <;> omega)]; exact (Below.cell (B := wA.heap.size) (w := wA) (by repeat (first | with_reducible exact Below.refl _ _ | refine Below.drew ?_ | refine Below.alloc ?_ (by simp <;> omega) _)) (by simpa using hgA)).trans (hfA i hi)); obtain ⟨fD, hrD⟩ := SB.res; have g0 := hrD.cell (i := 0) (by omega); have z0 := hrD.frozen 0; have g1 := hrD.cell (i := 1) (by omega); have z1 := hrD.frozen 1; have g2 := hrD.cell (i := 2) (by omega); have z2 := hrD.frozen 2; have g3 := hrD.cell (i := 3) (by omega); have z3 := hrD.frozen 3; have g4 := hrD.cell (i := 4) (by omega); have z4 := hrD.frozen 4; have g5 := hrD.cell (i := 5) (by omega); have z5 := hrD.frozen 5; have g6 := hrD.cell (i := 6) (by omega); have z6 := hrD.frozen 6; clear hrD))
      all_goals
        go_wp2_with fail
        refine bodyPost_ret (v := .agg (LOp.val ⟨5, 0, ⟨#[]⟩, 0, ⟨#[]⟩, (Lf y : Int), sB⟩)) (by rw [results, Tryz.results115]; simp [go_sem, LOp.val, g0, g1, g2, g3, g4, g5, g6]) rfl ?_
        exact SB.done rfl hrw (by omega) ⟨5, 0, ⟨#[]⟩, 0, ⟨#[]⟩, (Lf y : Int), sB⟩ ⟨sz_empty, sz_empty, Nat.le_trans hsB (by omega)⟩ _ _ _ _ _ _ _
end Go.Proofs.YtnolbfijcnldjaaGreatDoor

/- Rows of what is done, of one's own, that grow. -/
namespace Go.Proofs.YtnolbfijcnldjaaGreatDoor
open Go.RowKit

/-- The cells of what is done, one behind the other. -/
def opCells (l : List LOp) : List Value := l.flatMap fun o => o.val.toList
theorem opCells_len (l : List LOp) : (opCells l).length = l.length * 7 := by
  induction l with
  | nil => rfl
  | cons o r ih => simp only [opCells, List.flatMap_cons, List.length_append, List.length_cons] at ih ⊢; rw [ih]; simp [LOp.val]; omega
theorem opCells_app (l r : List LOp) : opCells (l ++ r) = opCells l ++ opCells r := by simp [opCells]
theorem opCells_one (l : List LOp) : ∀ u ∈ opCells l, u.oneCell' = true := by
  intro u hu
  simp only [opCells, List.mem_flatMap] at hu
  obtain ⟨e, _, h⟩ := hu
  simp [LOp.val] at h
  rcases h with rfl | rfl | rfl | rfl | rfl | rfl | rfl <;> rfl
def OwnOps (w : World) (B : Nat) (v : Value) (l : List LOp) : Prop := w.ownsRow B 27 7 v l.length (opCells l)
theorem infoO : (Tryz.prog.info? 27).map (fun i => (i.zero, i.size, i.bytes)) = some (some (.agg #[.int .i64 0, .int .i64 0, .string ⟨#[]⟩, .int .i64 0, .string ⟨#[]⟩, .int .i64 0, .string ⟨#[]⟩]), 7, 80) := by kernel_rfl
structure AppOEnd (w w' : World) (B : Nat) (u v : Value) (l : List LOp) : Prop where
  own : OwnOps w' B v l
  grown : w.grownBy w' u.ownBlock
  at_ : ∀ g, v.ownBlock = some g → u.ownBlock = some g ∨ g = w.heap.size
theorem wpList_app_ops (w : World) {ops : Array Oper} {rest : List Oper} {o : Oper} {a : Act} {Q : Exit → Act → World → Prop} (hgd : o.guard = none) (s x : Operand)
    (ho : o.op = .call { callee := .builtin .append, args := #[s, x], argTypes := #[43, 43] }) (B : Nat) (u : Value) (l news : List LOp) (hown : OwnOps w B u l) (ad : Addr) (m c : Nat) (hm : m = news.length)
    (hs : a.eval s = u) (hx : a.eval x = .slice (some ad) m c)
    (hnews : ∀ j u, (opCells news)[j]? = some u → w.cell? (ad.add j) = some u) (hbd : l.length + m ≤ 1000000) (hB : B ≤ w.heap.size)
    (h : ∀ v w', AppOEnd w w' B u v (l ++ news) → wpList Tryz.prog ops Q rest (a.put o.dst v) w') : wpList Tryz.prog ops Q (o :: rest) a w := by
  obtain ⟨i0, hi, hz0, hz1, hz2⟩ := info_parts infoO
  subst hm
  obtain ⟨v', w', hr, h2, h3, h4, h5⟩ := run_append_own_at (P := Tryz.prog) w B 43 o.type 27 i0 _ 7 80 Tryz.underlying43 hi hz0 hz1 hz2 rfl (by decide) _ _ _ hown ad news.length c (opCells news) (opCells_len _) hnews (opCells_one _) (by unfold maxLen; omega) (by omega) hB
  refine wpList_plain hgd fun K hK => ?_
  unfold Oper.wp execOp
  simp only [ho, resolve, invoke, builtin, Sem.run_bind, Sem.run_pure, Result.andThen_ok, List.map_toArray, List.map_cons, List.map_nil, hs, hx, hr]
  refine hK _ _ (h v' w' ⟨?_, h3, ?_⟩)
  · unfold OwnOps; rw [opCells_app, List.length_append]; exact h2
  · intro g hg
    rcases h5 with h5 | h5
    · left; rw [← h5]; exact hg
    · right; rw [hg] at h5; simpa using h5
end Go.Proofs.YtnolbfijcnldjaaGreatDoor
