/-
  At every code the call of laws.FnLogFits returns true: of the tree and the log that are drawn by it the program tells what the specification tells, whether it fits and the first that does not, and whether it is ok; a log that is ok fits an ok tree just if all on which it leans has the Ver that it had; the code reads behind the call as it did. No condition.
-/
import Derived.Test.YtdjffkiiglilnaaLogV
import Derived.Test.YtdjffkiiglilnaaLogE
import Derived.Test.YtdjffkiiglilnaaLogF
import Derived.Test.YtdjffkiiglilnaaClosed
import Derived.Deep.DeepCutAuto
import Derived.ProofKit
import Derived.OpenShut
import Derived.ShutString
import Derived.ChangeOld
namespace Go.Proofs.Ytdjffkiiglilnaa
open Go.RowKit

theorem fitsV_first (os : List LObj) : ∀ {xs : List LBase} {j : Nat} {x : LBase}, (∀ i, i < j → ∀ y, xs[i]? = some y → verAt os y.id = y.ver) → xs[j]? = some x → verAt os x.id ≠ x.ver → fitsV os xs = (false, x.id)
  | [], _, _, _, h, _ => by simp at h
  | y :: xs, 0, x, _, h, hn => by
    simp at h; subst h
    simp [fitsV, hn]
  | y :: xs, j + 1, x, hA, h, hn => by
    have h0 := hA 0 (by omega) y rfl
    simp only [fitsV, h0, if_true]
    exact fitsV_first os (xs := xs) (j := j) (fun i hi z hz => hA (i + 1) (by omega) z (by simpa using hz)) (by simpa using h) hn
theorem fitsV_all (os : List LObj) : ∀ {xs : List LBase}, (∀ (i : Nat) (y : LBase), xs[i]? = some y → verAt os y.id = y.ver) → fitsV os xs = (true, -1)
  | [], _ => rfl
  | y :: xs, hA => by
    have h0 := hA 0 y rfl
    simp only [fitsV, h0, if_true]
    exact fitsV_all os (fun i z hz => hA (i + 1) z (by simpa using hz))
theorem fitsV_some (os : List LObj) : ∀ {xs : List LBase} {i : Nat} {y : LBase}, xs[i]? = some y → verAt os y.id ≠ y.ver → (fitsV os xs).1 = false
  | [], _, _, h, _ => by simp at h
  | z :: xs, i, y, h, hn => by
    unfold fitsV
    split
    · next h0 =>
      match i, h with
      | 0, h => simp at h; subst h; exact absurd h0 hn
      | i + 1, h => exact fitsV_some os (by simpa using h) hn
    · rfl
/-- A tree and a log in their boxes. -/
structure LF (w X : World) (TA TB b c2 : Nat) (os : List LObj) (x1 y1 : Int) (a1 : Option Addr) (n1 k1 : Nat) (a1' : Option Addr) (n1' k1' : Nat) (l1 : LLog) : Prop where
  below : Below w.heap.size w X
  q : X.cell? ⟨TA, 0, none⟩ = some (.slice (some ⟨b, 0, none⟩) 32 c2)
  bx : LogBox X TB x1 y1 a1 n1 k1 a1' n1' k1'
  o : ObjsAt X w.heap.size TA (some ⟨b, 0, none⟩) 32 os
  l : LogAt X w.heap.size TA x1 y1 a1 n1 a1' n1' l1
  lt : TA < TB
  z : TB < X.heap.size
theorem LF.next {w X Y : World} {TA TB b c2 : Nat} {os : List LObj} {x1 y1 : Int} {a1 : Option Addr} {n1 k1 : Nat} {a1' : Option Addr} {n1' k1' : Nat} {l1 : LLog} (h : LF w X TA TB b c2 os x1 y1 a1 n1 k1 a1' n1' k1' l1) (hb : Below X.heap.size X Y) : LF w Y TA TB b c2 os x1 y1 a1 n1 k1 a1' n1' k1' l1 := by
  have h1 := h.lt
  have h2 := h.z
  exact ⟨h.below.trans (hb.mono h.below.size), by rw [hb.cell (by simp; omega)]; exact h.q, h.bx.of (hb.block _ h2), h.o.below hb (by omega), h.l.below hb (by omega), h1, by have := hb.size; omega⟩

set_option maxHeartbeats 8000000 in
set_option maxRecDepth 20000 in
theorem walkLogFitsL (a : Option Addr) (n c : Nat) (zs : List Int) (w : World) (hc : n ≤ c) (hcb : n ≤ maxLen) (H : BytesAt w w.heap.size a n zs) :
    Calls Try.prog 3 #[.slice a n c] w fun e w' => e = .returned (.bool true) ∧ Below w.heap.size w w' := by
  unfold maxLen at hcb
  by_cases hbig : 1048576 < n
  · go_enter Try.func3, Try.ntmps3
    go_wp2_with fail
    go_ret
    exact ⟨rfl, Below.refl _ _⟩
  go_enter Try.func3, Try.ntmps3
  go_wp2_with fail
  refine (drawLogFits a n c zs w (by omega) hc H).mono ?_
  rintro e W1 ⟨⟨b, c2, os, x1, y1, a1, n1, k1, a1', n1', k1', l1, rfl, hO, hS, hL, hn1, hk1, hk2⟩, hb1⟩
  have HF2 : Hid (LF w ((W1.alloc (Obj.cells #[.slice (some ⟨b, 0, none⟩) 32 c2] 25)).alloc (Obj.cells #[.int .i64 x1, .int .i64 y1, .slice a1 n1 k1, .slice a1' n1' k1'] 29)) W1.heap.size (W1.heap.size + 1) b c2 os x1 y1 a1 n1 k1 a1' n1' k1' l1) := by
    have hal : Below W1.heap.size W1 ((W1.alloc (Obj.cells #[.slice (some ⟨b, 0, none⟩) 32 c2] 25)).alloc (Obj.cells #[.int .i64 x1, .int .i64 y1, .slice a1 n1 k1, .slice a1' n1' k1'] 29)) := ((Below.refl _ _).alloc (Nat.le_refl _) _).alloc (by simp) _
    exact ⟨hb1.trans (hal.mono hb1.size), by simp [go_sem], ⟨by simp [go_sem], by simp [go_sem], by simp [go_sem], by simp [go_sem]⟩, hO.below hal (Nat.le_refl _), hL.below hal (Nat.le_refl _), by omega, by simp⟩
  have HS : Hid (Sizes os 1048576) := hS
  clear hO hL hS hb1 H
  go_wp2_with fail
  generalize hW2 : (W1.alloc (Obj.cells #[.slice (some ⟨b, 0, none⟩) 32 c2] 25)).alloc (Obj.cells #[.int .i64 x1, .int .i64 y1, .slice a1 n1 k1, .slice a1' n1' k1'] 29) = W2 at *
  obtain ⟨TB, hTB⟩ : ∃ t, t = W1.heap.size + 1 := ⟨_, rfl⟩
  rw [← hTB] at HF2 ⊢
  generalize hTA : W1.heap.size = TA at *
  clear hW2 hTB hTA
  refine (implLogFits _ _ _ os _ _ _ _ _ _ _ _ _ _ l1 _ _ _ (by have := HF2.out.z; have := HF2.out.lt; omega) (by have := HF2.out.z; have := HF2.out.lt; omega) hk1 hk2 HF2.out.o HF2.out.l).mono ?_
  rintro e W3 ⟨rfl, hb3⟩
  have HF3 : Hid (LF w W3 TA TB b c2 os x1 y1 a1 n1 k1 a1' n1' k1' l1) := HF2.out.next hb3
  clear HF2 hb3
  have q3 := HF3.out.q
  obtain ⟨g0, g1, g2, g3⟩ := HF3.out.bx
  have z3 := HF3.out.z
  have z3' := HF3.out.lt
  go_wp2_with fail
  refine (specLogFits _ _ _ os _ _ _ _ _ _ _ _ _ _ l1 _ _ _ (by omega) (by omega) HS.out HF3.out.o HF3.out.l).mono ?_
  rintro e W4 ⟨rfl, hb4⟩
  have HF4 : Hid (LF w W4 TA TB b c2 os x1 y1 a1 n1 k1 a1' n1' k1' l1) := HF3.out.next hb4
  clear HF3 hb4 q3 g0 g1 g2 g3 z3
  obtain ⟨f1, hf1⟩ : ∃ f, f = (logFits os l1).1 := ⟨_, rfl⟩
  obtain ⟨f2, hf2⟩ : ∃ f, f = (logFits os l1).2 := ⟨_, rfl⟩
  rw [← hf1, ← hf2]
  have HFF : Hid (logFits os l1 = (f1, f2)) := by show _ = _; rw [hf1, hf2]
  clear hf1 hf2
  have e1 : (f1 != f1) = false := by simp
  have e2 : (f2 != f2) = false := by simp
  have q3 := HF4.out.q
  obtain ⟨g0, g1, g2, g3⟩ := HF4.out.bx
  have z4 := HF4.out.z
  go_wp2_with fail
  go_upto_region 6 with fail
  go_cut [46] (fun x wx => x = .bool false ∧ LF w wx TA TB b c2 os x1 y1 a1 n1 k1 a1' n1' k1' l1)
  case first =>
    have h4 := HF4.out.next (Below.refl _ _).drew
    have e3 : (logOk l1 != logOk l1) = false := by simp
    go_region_with (first
      | (go_at_call 12; go_must (refine (implLogOk _ _ _ _ _ _ _ _ l1 _ _ _ (by have := h4.z; omega) hk1 hk2 h4.l).mono ?_; rintro x w5 ⟨rfl, hb5⟩; have h5 := h4.next hb5; obtain ⟨g0, g1, g2, g3⟩ := h5.bx; have z5 := h5.z))
      | (go_at_call 13; go_must (refine (specLogOk _ _ _ _ _ _ _ _ l1 _ _ _ (by omega) h5.l).mono ?_; rintro x w6 ⟨rfl, hb6⟩)))
    all_goals
      go_wp2_with fail
      go_meet
      exact ⟨rfl, h5.next hb6⟩
  obtain ⟨rfl, h7⟩ := hcut
  clear HF4 q3 g0 g1 g2 g3 z4
  rename World => W7
  have HF7 : Hid (LF w W7 TA TB b c2 os x1 y1 a1 n1 k1 a1' n1' k1' l1) := h7
  clear h7
  have q3 := HF7.out.q
  have z7 := HF7.out.z
  go_wp2_with fail
  refine (specTreeOk _ _ _ os _ _ _ HS.out (by omega) HF7.out.o).mono ?_
  rintro e W8 ⟨rfl, hb8⟩
  have HF8 : Hid (LF w W8 TA TB b c2 os x1 y1 a1 n1 k1 a1' n1' k1' l1) := HF7.out.next hb8
  clear HF7 hb8 q3 z7
  obtain ⟨g0, g1, g2, g3⟩ := HF8.out.bx
  have z8 := HF8.out.z
  rcases t1 : specOk os with _ | _
  · have hff : (f1, f2) = (false, -1) := by rw [← HFF.out]; simp [logFits, t1]
    obtain ⟨rfl, rfl⟩ := Prod.mk.inj hff
    clear hff
    go_wp2_with fail
    go_ret
    exact ⟨rfl, HF8.out.below⟩
  go_wp2_with fail
  refine (specLogOk _ _ _ _ _ _ _ _ l1 _ _ _ (by omega) HF8.out.l).mono ?_
  rintro e W9 ⟨rfl, hb9⟩
  have HF9 : Hid (LF w W9 TA TB b c2 os x1 y1 a1 n1 k1 a1' n1' k1' l1) := HF8.out.next hb9
  clear HF8 hb9 g0 g1 g2 g3 z8
  rcases t2 : logOk l1 with _ | _
  · have hff : (f1, f2) = (false, -1) := by rw [← HFF.out]; simp [logFits, t2]
    obtain ⟨rfl, rfl⟩ := Prod.mk.inj hff
    clear hff
    go_wp2_with fail
    go_ret
    exact ⟨rfl, HF9.out.below⟩
  have HV : Hid (fitsV os l1.bases = (f1, f2)) := by show _ = _; rw [← HFF.out]; simp [logFits, t1, t2]
  have HID : Hid (∀ (j : Nat) (x : LBase), l1.bases[j]? = some x → ∃ k : Nat, x.id = (k : Int) ∧ k < 32) := fun j x hx => by
    simp [logOk] at t2
    obtain ⟨k, hk, e⟩ := basesFor_id t2.2 j x hx
    exact ⟨k, e, logIds_bd _ k hk⟩
  have HLB := HF9.out.l.b
  have HOB := HF9.out.o
  have hbd := HLB.bd
  unfold maxLen at hbd
  have HLEN : Hid (n1 = l1.bases.length) := HLB.len
  obtain ⟨g0, g1, g2, g3⟩ := HF9.out.bx
  have q3 := HF9.out.q
  have z9 := HF9.out.z
  clear HFF t1 t2
  go_wp2_with fail
  go_loopg [9, 10] n1 (fun g al i wr => ∃ j : Nat, j ≤ n1 ∧ Hid (g = n1 - j) ∧ i = .int .i64 j ∧ (∃ A : Bool, al = .bool A ∧ Hid (A = true ↔ ∀ i, i < j → ∀ y, l1.bases[i]? = some y → verAt os y.id = y.ver)) ∧ ∃ q, wr = W9.drewN q)
  case atStart => exact ⟨0, Nat.zero_le _, rfl, rfl, ⟨true, rfl, by show _ ↔ _; simp⟩, 0, rfl⟩
  case round =>
    obtain ⟨j, hj, hk, rfl, ⟨A, rfl, hA⟩, qq, rfl⟩ := hrel
    by_cases hlt : j < n1
    · obtain ⟨bb, off, ha, hL, hbU, hcc⟩ := HLB.at_ (by omega)
      obtain ⟨tb, toff, hta, htL, htU, htc⟩ := HOB.at_ (by omega)
      simp only [Option.some.injEq, Addr.mk.injEq] at hta
      obtain ⟨rfl, rfl, _⟩ := hta
      subst ha
      obtain ⟨x, hx, d0, d1⟩ := hcc j hlt
      obtain ⟨kk, hid, hk32⟩ := HID.out j x hx
      obtain ⟨o, ka, kn, kc, ho, _, _, v1, _⟩ := htc kk hk32
      simp only [Nat.zero_add] at v1
      have HXX : Hid (l1.bases[j]? = some x) := hx
      have HVA : Hid (verAt os x.id = o.ver) := by show _ = _; rw [hid]; simp [verAt, ho]
      rw [hid] at d0
      have hlt' : (j : Int) < (n1 : Int) := by omega
      have hk32' : (kk : Int) < 32 := by omega
      clear hcc htc hx ho
      rcases t3 : (o.ver == x.ver) with _ | _
      · have HNE : Hid (verAt os x.id ≠ x.ver) := by show _ ≠ _; rw [HVA.out]; simpa using t3
        cases A
        · go_wp2_with fail
          go_big_quiet (fail)
          go_wp2_with fail
          go_roundg (n1 - (j + 1))
          case measure => have := hk.out; omega
          case rel =>
            refine ⟨j + 1, by omega, rfl, by go_num, ⟨false, rfl, ?_⟩, _, rfl⟩
            show false = true ↔ _
            constructor
            · intro h; cases h
            · intro h; exact absurd (h j (by omega) x HXX.out) HNE.out
        · have hf2 : Hid (f2 = (kk : Int)) := by
            show _ = _
            have h1 := fitsV_first os (hA.out.1 rfl) HXX.out HNE.out
            rw [HV.out, hid] at h1
            exact (Prod.mk.inj h1).2
          have hq2 : (f2 != (kk : Int)) = false := by rw [hf2.out]; simp
          go_wp2_with fail
          go_big_quiet (fail)
          go_wp2_with fail
          go_roundg (n1 - (j + 1))
          case measure => have := hk.out; omega
          case rel =>
            refine ⟨j + 1, by omega, rfl, by go_num, ⟨false, rfl, ?_⟩, _, rfl⟩
            show false = true ↔ _
            constructor
            · intro h; cases h
            · intro h; exact absurd (h j (by omega) x HXX.out) HNE.out
      · have HEQ : Hid (verAt os x.id = x.ver) := by show _ = _; rw [HVA.out]; simpa using t3
        cases A
        all_goals
          go_wp2_with fail
          go_big_quiet (fail)
          go_wp2_with fail
          go_roundg (n1 - (j + 1))
          case measure => have := hk.out; omega
          case rel =>
            refine ⟨j + 1, by omega, rfl, by go_num, ⟨_, rfl, ?_⟩, _, rfl⟩
            have hstep : (∀ i, i < j → ∀ y, l1.bases[i]? = some y → verAt os y.id = y.ver) ↔ ∀ i, i < j + 1 → ∀ y, l1.bases[i]? = some y → verAt os y.id = y.ver := by
              refine ⟨fun h i hi y hy => ?_, fun h i hi y hy => h i (by omega) y hy⟩
              by_cases e : i = j
              · subst e
                rw [HXX.out] at hy
                cases hy
                exact HEQ.out
              · exact h i (by omega) y hy
            show _ ↔ _
            have h9 := hA.out.trans hstep
            first | exact h9 | exact ⟨fun _ => h9.1 trivial, fun _ => rfl⟩ | exact ⟨fun h => by cases h, fun h => absurd (h9.2 h) id⟩
    · have HFIN : Hid ((f1 == A) = true) := by
        show _ = _
        cases A
        · have hex : ¬ ∀ i, i < j → ∀ y, l1.bases[i]? = some y → verAt os y.id = y.ver := fun h => by have := hA.out.2 h; cases this
          have hf : (fitsV os l1.bases).1 = false := by
            cases hff : (fitsV os l1.bases).1 with
            | false => rfl
            | true =>
              exfalso
              refine hex fun i _ y hy => ?_
              by_cases hq : verAt os y.id = y.ver
              · exact hq
              · rw [fitsV_some os hy hq] at hff; cases hff
          rw [HV.out] at hf
          simp at hf
          simp [hf]
        · have hall := fitsV_all os (xs := l1.bases) (fun i y hy => hA.out.1 rfl i (by have := (List.getElem?_eq_some_iff.1 hy).1; have := HLEN.out; omega) y hy)
          rw [HV.out] at hall
          simp [(Prod.mk.inj hall).1]
      have hf := HFIN.out
      go_wp2_with fail
      go_ret
      exact ⟨by simp, HF9.out.below.trans ((Below.drewN _ _).mono HF9.out.below.size)⟩

namespace fnLogFits
open Go.ChangeShapes Go.WideShapes Go.ChangeAt Go.RowKit
open Go.ChangeMaps (open_string shut_string)
set_option linter.unusedVariables false

theorem own : ownKnob Try.prog.godebug = none := by kernel_rfl

set_option maxRecDepth 100000 in
theorem lifted (os : Os) (started : os.Started) (H : Type) (enc : TypeId × Value → H) :
    ReturnsInHanded {} Try.checked os 3 .any (Rows.fnLogFitsSpec.pre6 enc Try.prog Try.f3 Rows.fnLogFitsRow.domain false) (Rows.fnLogFitsSpec.post enc Try.prog Try.f3 false true false false) := by
  refine returnsInHanded_of_change (C := Try.checked) own started (by kernel_rfl) Try.func3
    (ChangeSpec.witness6 (enc := enc) (C := Try.checked) false ⟨#[], #[.slice none 0 0], []⟩ 8 (by kernel_rfl) (by kernel_rfl) (by kernel_rfl) (by kernel_rfl)) ?_
  intro W base args ds gs before hval0 hW hcnd _
  have hval : ∀ (j : Nat) t v, Try.f3.params[j]? = some t → args[j]? = some v → Value.okWide Try.prog W .any base t v := hval0
  have hW' := hW
  obtain ⟨p, q, hA0, hV, rfl, hfz, hnd⟩ := hW
  have hA : DataW.TrodAll enc Try.prog W 0 (fun _ => true) true Try.f3.params.toList args.toList ds p := hA0
  rw [Try.params3] at hA hval
  obtain ⟨v0, vs0, d0, ds0, p0, q0, hargs, rfl, rfl, h0, r0⟩ := trodAll_cons hA
  obtain ⟨rfl, rfl, rfl⟩ := trodAll_nil r0
  obtain rfl : args = #[v0] := by cases args; simp_all
  obtain ⟨rfl, rfl⟩ := trodVars_none hV
  have k0 := h0
  have lt0 : ∀ x ∈ p0, x.block < W.heap.size := by obtain ⟨m, hm⟩ := k0; exact DataW.trod_lt m _ _ _ hm
  obtain ⟨a0, n0, c0, z0, rfl, hnc0, hnm0, w0⟩ := open_bytes (hval 0 22 v0 rfl rfl) h0
  clear hA0 hval0
  refine (walkLogFitsL a0 n0 c0 z0 W hnc0 hnm0 w0).mono fun e W' ⟨he, bel⟩ => ?_
  subst he
  exact ⟨_, rfl, _, _, _, [], _, [], hW', trodAll_mk1 (shut_bool Try.underlying4 _), (trodAll_cons_mk (Below.trod fLaid (by kernel_rfl) (of_decide_eq_true (by kernel_rfl)) k0 bel lt0) trodAll_mk0), rfl, bel.frame _, fun h => by cases h⟩

set_option maxHeartbeats 4000000 in
theorem closed : joinedFacts Try.prog 3 Try.f3 Rows.fnLogFitsSpec Rows.fnLogFitsRow = true := by
  refine closedOf rfl rfl rfl ?_ ?_ ?_ ?_ ?_ ?_ ?_ ?_ ?_ ?_ ?_ ?_ ?_ ?_ ?_ ?_ ?_ ?_ ?_ rfl rfl ?_ ?_ ?_
  all_goals (as_aux_lemma => kernel_rfl)

theorem over : Rows.fnLogFitsRow.holds Try.pinned (OpenSpec.ofChange Rows.fnLogFitsSpec) :=
  OpenClaim.holds_of_wide 3 Try.f3 rfl rfl rfl rfl rfl rfl rfl ⟨rfl, rfl, rfl, rfl, rfl⟩ rfl rfl rfl rfl rfl (by kernel_rfl) Try.func3 closed
    (of_decide_eq_true (by kernel_rfl)) (by unfold Func.isWrapper; first | (rw [if_pos (by decide +kernel)]; kernel_rfl) | (rw [if_neg (by decide +kernel)]; exact ⟨rfl, rfl⟩))
    (fun os started H enc _ => lifted os started H enc)
end fnLogFits

theorem fnLogFits_holds : Rows.FnLogFitsSaid := fnLogFits.over
#print axioms fnLogFits_holds
end Go.Proofs.Ytdjffkiiglilnaa
