/- Logs: whether a log fits, of the program and of the specification. -/
import Derived.Test.YtdjffkiiglilnaaLogE
import Derived.Test.YtdjffkiiglilnaaUnder
namespace Go.Proofs.Ytdjffkiiglilnaa
open Go.RowKit

def verAt (os : List LObj) (i : Int) : Int := (os[i.toNat]?.map LObj.ver).getD 0
def fitsV (os : List LObj) : List LBase → Bool × Int
  | [] => (true, -1)
  | x :: xs => if verAt os x.id = x.ver then fitsV os xs else (false, x.id)
def logFits (os : List LObj) (l : LLog) : Bool × Int := if specOk os && logOk l then fitsV os l.bases else (false, -1)
theorem basesFor_id : ∀ {xs : List LBase} {is : List Nat}, basesFor xs is = true → ∀ (j : Nat) x, xs[j]? = some x → ∃ i ∈ is, x.id = (i : Int)
  | [], _, _, _, _, h => by simp at h
  | _ :: _, [], h, _, _, _ => by simp [basesFor] at h
  | y :: xs, i :: is, h, 0, x, hx => by
    simp at hx; subst hx
    simp [basesFor, baseOf] at h
    exact ⟨i, by simp, h.1.1⟩
  | y :: xs, i :: is, h, j + 1, x, hx => by
    simp only [basesFor, Bool.and_eq_true] at h
    obtain ⟨k, hk, e⟩ := basesFor_id h.2 j x (by simpa using hx)
    exact ⟨k, by simp [hk], e⟩
theorem logOk_id {l : LLog} (h : logOk l = true) {j : Nat} {x : LBase} (hx : l.bases[j]? = some x) : ∃ i : Nat, x.id = (i : Int) ∧ i < 32 := by
  simp only [logOk, Bool.and_eq_true] at h
  obtain ⟨i, hi, e⟩ := basesFor_id h.2 j x hx
  exact ⟨i, e, logIds_bd _ i hi⟩
theorem specOk_32 {os : List LObj} (h : specOk os = true) : os.length = 32 := by
  unfold specOk at h
  rw [Bool.and_eq_true, Bool.and_eq_true, Bool.and_eq_true, decide_eq_true_eq] at h
  exact h.1.1.1
theorem drop_cons' {α : Type} {l : List α} {j : Nat} {x : α} (h : l[j]? = some x) : l.drop j = x :: l.drop (j + 1) := by
  have hj : j < l.length := (List.getElem?_eq_some_iff.1 h).1
  rw [List.drop_eq_getElem_cons hj, (List.getElem?_eq_some_iff.1 h).2]

set_option maxHeartbeats 4000000 in
set_option maxRecDepth 20000 in
theorem implLogFits (ta : Option Addr) (tn tc : Nat) (os : List LObj) (TL TU : Nat) (q s : Int) (a : Option Addr) (n c : Nat) (a' : Option Addr) (n' c' : Nat) (l : LLog) (L U : Nat) (w : World) (hT : TU ≤ w.heap.size) (hU : U ≤ w.heap.size) (hnc : n' ≤ c') (hcm : c' ≤ maxLen) (HT : ObjsAt w TL TU ta tn os) (H : LogAt w L U q s a n a' n' l) :
    Calls Try.prog 10 #[.agg #[.slice ta tn tc], .agg #[.int .i64 q, .int .i64 s, .slice a n c, .slice a' n' c']] w fun e w' => e = .returned (.tuple #[.bool (logFits os l).1, .int .i64 (logFits os l).2]) ∧ Below w.heap.size w w' := by
  have HB := H.b
  have hbd := HB.bd
  unfold maxLen at hbd
  obtain ⟨w0, hw0⟩ : ∃ W : World, W = (w.alloc (Obj.cells #[.slice ta tn tc] 25)).alloc (Obj.cells #[.int .i64 q, .int .i64 s, .slice a n c, .slice a' n' c'] 29) := ⟨_, rfl⟩
  have hA : Below w.heap.size w w0 := by rw [hw0]; exact ((Below.refl _ _).alloc (Nat.le_refl _) _).alloc (by simp) _
  have t0 : w0.cell? ⟨w.heap.size, 0, none⟩ = some (.slice ta tn tc) := by rw [hw0]; simp [go_sem]
  have x0 : w0.cell? ⟨w.heap.size + 1, 0, none⟩ = some (.int .i64 q) := by rw [hw0]; simp [go_sem]
  have x1 : w0.cell? ⟨w.heap.size + 1, 1, none⟩ = some (.int .i64 s) := by rw [hw0]; simp [go_sem]
  have x2 : w0.cell? ⟨w.heap.size + 1, 2, none⟩ = some (.slice a n c) := by rw [hw0]; simp [go_sem]
  have x3 : w0.cell? ⟨w.heap.size + 1, 3, none⟩ = some (.slice a' n' c') := by rw [hw0]; simp [go_sem]
  have hz0 : w0.heap.size = w.heap.size + 2 := by rw [hw0]; simp
  go_enter Try.func10, Try.ntmps10
  go_upto_region 1 with fail
  rw [← hw0]
  clear hw0
  go_wp2_with fail
  refine (implTreeOk _ _ _ os TL TU _ (by omega) (HT.below hA hT)).mono ?_
  rintro e w1 ⟨rfl, hb1⟩
  have hB1 : Below w.heap.size w w1 := hA.trans (hb1.mono hA.size)
  have hz1 := hb1.size
  rcases ho : specOk os with _ | _
  · have HV : Hid (logFits os l = (false, -1)) := by show _ = _; simp [logFits, ho]
    go_wp2_with fail
    exact bodyPost_ret (v := .tuple #[.bool false, .int .i64 (-1)]) (by simp [results, Try.results10, go_sem]) rfl ⟨by rw [HV.out], hB1⟩
  have y0 : w1.cell? ⟨w.heap.size + 1, 0, none⟩ = some (.int .i64 q) := by rw [hb1.cell (by simp; omega)]; exact x0
  have y1 : w1.cell? ⟨w.heap.size + 1, 1, none⟩ = some (.int .i64 s) := by rw [hb1.cell (by simp; omega)]; exact x1
  have y2 : w1.cell? ⟨w.heap.size + 1, 2, none⟩ = some (.slice a n c) := by rw [hb1.cell (by simp; omega)]; exact x2
  have y3 : w1.cell? ⟨w.heap.size + 1, 3, none⟩ = some (.slice a' n' c') := by rw [hb1.cell (by simp; omega)]; exact x3
  have s0 : w1.cell? ⟨w.heap.size, 0, none⟩ = some (.slice ta tn tc) := by rw [hb1.cell (by simp; omega)]; exact t0
  clear x0 x1 x2 x3 t0 hb1 hA
  go_wp2_with fail
  refine (implLogOk _ _ _ _ _ _ _ _ l L U _ (by omega) hnc hcm (H.below hB1 hU)).mono ?_
  rintro e w2 ⟨rfl, hb2⟩
  have hB2 : Below w.heap.size w w2 := hB1.trans (hb2.mono hB1.size)
  have hz2 := hb2.size
  rcases hl : logOk l with _ | _
  · have HV : Hid (logFits os l = (false, -1)) := by show _ = _; simp [logFits, hl]
    go_wp2_with fail
    exact bodyPost_ret (v := .tuple #[.bool false, .int .i64 (-1)]) (by simp [results, Try.results10, go_sem]) rfl ⟨by rw [HV.out], hB2⟩
  have HV : Hid (logFits os l = fitsV os l.bases) := by show _ = _; simp [logFits, ho, hl]
  have HID : Hid (∀ (j : Nat) x, l.bases[j]? = some x → ∃ i : Nat, x.id = (i : Int) ∧ i < 32) := fun j x hx => logOk_id hl hx
  have h32 : tn = 32 := by rw [HT.len, specOk_32 ho]
  have z2 : w2.cell? ⟨w.heap.size + 1, 2, none⟩ = some (.slice a n c) := by rw [hb2.cell (by simp; omega)]; exact y2
  have z0 : w2.cell? ⟨w.heap.size, 0, none⟩ = some (.slice ta tn tc) := by rw [hb2.cell (by simp; omega)]; exact s0
  clear y0 y1 y2 y3 s0 hb2 hB1 ho hl
  subst h32
  go_wp2_with fail
  go_loopg [19] n (fun g i wr => ∃ j : Nat, j ≤ n ∧ Hid (g = n - j) ∧ i = .int .i64 j ∧ Hid (logFits os l = fitsV os (l.bases.drop j)) ∧ Below w2.heap.size w2 wr)
  case atStart => exact ⟨0, Nat.zero_le _, rfl, rfl, HV.out, Below.refl _ _⟩
  case round =>
    clear HV
    obtain ⟨j, hj, hk, rfl, hv, hb⟩ := hrel
    have hzz := hb.size
    have hbw : Below w.heap.size w wr := hB2.trans (hb.mono hB2.size)
    by_cases hlt : j < n
    · obtain ⟨b, off, ha, hL, hbU, hc⟩ := HB.at_ (by omega)
      subst ha
      obtain ⟨x, he, c0, c1⟩ := hc j hlt
      obtain ⟨i, hxi, hi⟩ := HID.out j x he
      obtain ⟨tb, toff, rfl, hTL, hTU, htc⟩ := HT.at_ (by omega)
      obtain ⟨o, ka, kn, kc, hoi, _, _, g1, _⟩ := htc i (by omega)
      have HVR : Hid (verAt os x.id = o.ver) := by show _ = _; simp [verAt, hxi, hoi]
      rw [← hbw.cell (by simp; omega)] at c0 c1 g1
      rw [hxi] at c0
      have HE : Hid (l.bases.drop j = x :: l.bases.drop (j + 1)) := drop_cons' he
      have HXI : Hid (x.id = (i : Int)) := hxi
      have hlt' : (j : Int) < (n : Int) := by omega
      have hi' : (i : Int) < 32 := by omega
      have e0 : wr.cell? ⟨w.heap.size, 0, none⟩ = some (.slice (some ⟨tb, toff, none⟩) 32 tc) := by rw [hb.cell (by simp; omega)]; exact z0
      have hA9 : ∀ o9 : Obj, Below wr.heap.size wr (wr.alloc o9) := fun o9 => (Below.refl _ _).alloc (Nat.le_refl _) _
      have e1 : ∀ o9 : Obj, (wr.alloc o9).cell? ⟨w.heap.size, 0, none⟩ = some (.slice (some ⟨tb, toff, none⟩) 32 tc) := fun o9 => by rw [(hA9 o9).cell (by simp; omega)]; exact e0
      have g2 : ∀ o9 : Obj, (wr.alloc o9).cell? ⟨tb, toff + i * 4 + 1, none⟩ = some (.int .i64 o.ver) := fun o9 => by rw [(hA9 o9).cell (by simp; omega)]; exact g1
      clear he hc htc hoi hxi
      rcases hver : (o.ver == x.ver) with _ | _
      · have hv1 : (o.ver != x.ver) = true := by simp [bne, hver]
        have HF : Hid (logFits os l = (false, (i : Int))) := by
          show _ = _
          rw [hv.out, HE.out, fitsV, if_neg (by rw [HVR.out]; simpa using hver), HXI.out]
        go_wp2_with fail
        go_quiet (fail)
        go_wp2_with fail
        go_quiet (fail)
        go_wp2_with fail
        exact bodyPost_ret (v := .tuple #[.bool false, .int .i64 (i : Int)]) (by simp [results, Try.results10, go_sem]) rfl ⟨by rw [HF.out], by repeat (first | exact hbw.alloc (by omega) _ | (refine Below.trans ?_ ((Below.drewN _ _).mono (by simp; omega))))⟩
      · have hv1 : (o.ver != x.ver) = false := by simp [bne, hver]
        have HF : Hid (logFits os l = fitsV os (l.bases.drop (j + 1))) := by
          show _ = _
          rw [hv.out, HE.out, fitsV, if_pos (by rw [HVR.out]; simpa using hver)]
        go_wp2_with fail
        go_quiet (fail)
        go_wp2_with fail
        go_roundg (n - (j + 1))
        case measure => have := hk.out; omega
        case rel => exact ⟨j + 1, by omega, rfl, by go_num, HF.out, (hb.alloc hb.size _).trans ((Below.drewN _ _).mono (by simp; omega))⟩
    · have HF : Hid (logFits os l = (true, -1)) := by
        show _ = _
        rw [hv.out, List.drop_of_length_le (by have := HB.len; omega)]; rfl
      go_wp2_with fail
      exact bodyPost_ret (v := .tuple #[.bool true, .int .i64 (-1)]) (by simp [results, Try.results10, go_sem]) rfl ⟨by rw [HF.out], hbw⟩

set_option maxHeartbeats 4000000 in
set_option maxRecDepth 20000 in
theorem specLogFits (ta : Option Addr) (tn tc : Nat) (os : List LObj) (TL TU : Nat) (q s : Int) (a : Option Addr) (n c : Nat) (a' : Option Addr) (n' c' : Nat) (l : LLog) (L U : Nat) (w : World) (hT : TU ≤ w.heap.size) (hU : U ≤ w.heap.size) (hSz : Sizes os 1048576) (HT : ObjsAt w TL TU ta tn os) (H : LogAt w L U q s a n a' n' l) :
    Calls Try.prog 11 #[.agg #[.slice ta tn tc], .agg #[.int .i64 q, .int .i64 s, .slice a n c, .slice a' n' c']] w fun e w' => e = .returned (.tuple #[.bool (logFits os l).1, .int .i64 (logFits os l).2]) ∧ Below w.heap.size w w' := by
  have HB := H.b
  have hbd := HB.bd
  unfold maxLen at hbd
  obtain ⟨w0, hw0⟩ : ∃ W : World, W = (w.alloc (Obj.cells #[.slice ta tn tc] 25)).alloc (Obj.cells #[.int .i64 q, .int .i64 s, .slice a n c, .slice a' n' c'] 29) := ⟨_, rfl⟩
  have hA : Below w.heap.size w w0 := by rw [hw0]; exact ((Below.refl _ _).alloc (Nat.le_refl _) _).alloc (by simp) _
  have t0 : w0.cell? ⟨w.heap.size, 0, none⟩ = some (.slice ta tn tc) := by rw [hw0]; simp [go_sem]
  have x0 : w0.cell? ⟨w.heap.size + 1, 0, none⟩ = some (.int .i64 q) := by rw [hw0]; simp [go_sem]
  have x1 : w0.cell? ⟨w.heap.size + 1, 1, none⟩ = some (.int .i64 s) := by rw [hw0]; simp [go_sem]
  have x2 : w0.cell? ⟨w.heap.size + 1, 2, none⟩ = some (.slice a n c) := by rw [hw0]; simp [go_sem]
  have x3 : w0.cell? ⟨w.heap.size + 1, 3, none⟩ = some (.slice a' n' c') := by rw [hw0]; simp [go_sem]
  have hz0 : w0.heap.size = w.heap.size + 2 := by rw [hw0]; simp
  go_enter Try.func11, Try.ntmps11
  go_upto_region 1 with fail
  rw [← hw0]
  clear hw0
  go_wp2_with fail
  refine (specTreeOk _ _ _ os TL TU _ hSz (by omega) (HT.below hA hT)).mono ?_
  rintro e w1 ⟨rfl, hb1⟩
  have hB1 : Below w.heap.size w w1 := hA.trans (hb1.mono hA.size)
  have hz1 := hb1.size
  rcases ho : specOk os with _ | _
  · have HV : Hid (logFits os l = (false, -1)) := by show _ = _; simp [logFits, ho]
    go_wp2_with fail
    exact bodyPost_ret (v := .tuple #[.bool false, .int .i64 (-1)]) (by simp [results, Try.results11, go_sem]) rfl ⟨by rw [HV.out], hB1⟩
  have y0 : w1.cell? ⟨w.heap.size + 1, 0, none⟩ = some (.int .i64 q) := by rw [hb1.cell (by simp; omega)]; exact x0
  have y1 : w1.cell? ⟨w.heap.size + 1, 1, none⟩ = some (.int .i64 s) := by rw [hb1.cell (by simp; omega)]; exact x1
  have y2 : w1.cell? ⟨w.heap.size + 1, 2, none⟩ = some (.slice a n c) := by rw [hb1.cell (by simp; omega)]; exact x2
  have y3 : w1.cell? ⟨w.heap.size + 1, 3, none⟩ = some (.slice a' n' c') := by rw [hb1.cell (by simp; omega)]; exact x3
  have s0 : w1.cell? ⟨w.heap.size, 0, none⟩ = some (.slice ta tn tc) := by rw [hb1.cell (by simp; omega)]; exact t0
  clear x0 x1 x2 x3 t0 hb1 hA
  go_wp2_with fail
  refine (specLogOk _ _ _ _ _ _ _ _ l L U _ (by omega) (H.below hB1 hU)).mono ?_
  rintro e w2 ⟨rfl, hb2⟩
  have hB2 : Below w.heap.size w w2 := hB1.trans (hb2.mono hB1.size)
  have hz2 := hb2.size
  rcases hl : logOk l with _ | _
  · have HV : Hid (logFits os l = (false, -1)) := by show _ = _; simp [logFits, hl]
    go_wp2_with fail
    exact bodyPost_ret (v := .tuple #[.bool false, .int .i64 (-1)]) (by simp [results, Try.results11, go_sem]) rfl ⟨by rw [HV.out], hB2⟩
  have HV : Hid (logFits os l = fitsV os l.bases) := by show _ = _; simp [logFits, ho, hl]
  have HID : Hid (∀ (j : Nat) x, l.bases[j]? = some x → ∃ i : Nat, x.id = (i : Int) ∧ i < 32) := fun j x hx => logOk_id hl hx
  have h32 : tn = 32 := by rw [HT.len, specOk_32 ho]
  have z2 : w2.cell? ⟨w.heap.size + 1, 2, none⟩ = some (.slice a n c) := by rw [hb2.cell (by simp; omega)]; exact y2
  have z0 : w2.cell? ⟨w.heap.size, 0, none⟩ = some (.slice ta tn tc) := by rw [hb2.cell (by simp; omega)]; exact s0
  clear y0 y1 y2 y3 s0 hb2 hB1 ho hl
  subst h32
  go_wp2_with fail
  go_loopg [6] n (fun g i wr => ∃ j : Nat, j ≤ n ∧ Hid (g = n - j) ∧ i = .int .i64 j ∧ Hid (logFits os l = fitsV os (l.bases.drop j)) ∧ ∃ q, wr = w2.drewN q)
  case atStart => exact ⟨0, Nat.zero_le _, rfl, rfl, HV.out, 0, rfl⟩
  case round =>
    clear HV
    obtain ⟨j, hj, hk, rfl, hv, qq, rfl⟩ := hrel
    by_cases hlt : j < n
    · obtain ⟨b, off, ha, hL, hbU, hc⟩ := HB.at_ (by omega)
      subst ha
      obtain ⟨x, he, c0, c1⟩ := hc j hlt
      obtain ⟨i, hxi, hi⟩ := HID.out j x he
      obtain ⟨tb, toff, rfl, hTL, hTU, htc⟩ := HT.at_ (by omega)
      obtain ⟨o, ka, kn, kc, hoi, _, _, g1, _⟩ := htc i (by omega)
      have HVR : Hid (verAt os x.id = o.ver) := by show _ = _; simp [verAt, hxi, hoi]
      rw [← hB2.cell (by simp; omega)] at c0 c1 g1
      rw [hxi] at c0
      have HE : Hid (l.bases.drop j = x :: l.bases.drop (j + 1)) := drop_cons' he
      have HXI : Hid (x.id = (i : Int)) := hxi
      have hlt' : (j : Int) < (n : Int) := by omega
      have hi' : (i : Int) < 32 := by omega
      clear he hc htc hoi hxi
      rcases hver : (o.ver == x.ver) with _ | _
      · have hv1 : (o.ver != x.ver) = true := by simp [bne, hver]
        have HF : Hid (logFits os l = (false, (i : Int))) := by
          show _ = _
          rw [hv.out, HE.out, fitsV, if_neg (by rw [HVR.out]; simpa using hver), HXI.out]
        go_wp2_with fail
        go_quiet (fail)
        go_wp2_with fail
        go_quiet (fail)
        go_wp2_with fail
        exact bodyPost_ret (v := .tuple #[.bool false, .int .i64 (i : Int)]) (by simp [results, Try.results11, go_sem]) rfl ⟨by rw [HF.out], by simp only [World.drewN_drewN]; exact hB2.trans ((Below.drewN _ _).mono hB2.size)⟩
      · have hv1 : (o.ver != x.ver) = false := by simp [bne, hver]
        have HF : Hid (logFits os l = fitsV os (l.bases.drop (j + 1))) := by
          show _ = _
          rw [hv.out, HE.out, fitsV, if_pos (by rw [HVR.out]; simpa using hver)]
        go_wp2_with fail
        go_quiet (fail)
        go_wp2_with fail
        go_roundg (n - (j + 1))
        case measure => have := hk.out; omega
        case rel => exact ⟨j + 1, by omega, rfl, by go_num, HF.out, _, rfl⟩
    · have HF : Hid (logFits os l = (true, -1)) := by
        show _ = _
        rw [hv.out, List.drop_of_length_le (by have := HB.len; omega)]; rfl
      go_wp2_with fail
      exact bodyPost_ret (v := .tuple #[.bool true, .int .i64 (-1)]) (by simp [results, Try.results11, go_sem]) rfl ⟨by rw [HF.out], hB2.trans ((Below.drewN _ _).mono hB2.size)⟩
end Go.Proofs.Ytdjffkiiglilnaa
