/- The contract of layOut: a layout of the tree, just if it is ok. -/
import Derived.Test.YtjenldenggaljaaImplOk
import Derived.Deep.DeepCutAuto
namespace Go.Proofs.Ytjenldenggaljaa
open Go.RowKit

/-- How layOut ends: nothing and false; or a layout, and true. -/
def LayEnd (w : World) (L U : Nat) (os : List LObj) (e : Ending) (w' : World) : Prop :=
  (e = .returned (.tuple #[.pointer none, .bool false]) ∧ specOk os = false) ∨
  (∃ lb f, e = .returned (.tuple #[.pointer (some ⟨lb, 0, none⟩), .bool true]) ∧ specOk os = true ∧ w.heap.size ≤ lb ∧ w'.rowIs lb 120 192 f ∧ LayF w L U os f 32 (fun i => homeIn (flat os) i) (fun i => nameIn (flat os) i))

theorem LayF.below {w w' : World} {L U : Nat} {os : List LObj} {f : Nat → Value} {j : Nat} {h : Nat → Int} {nm : Nat → ByteArray} (hf : LayF w L U os f j h nm) {B : Nat} (hb : Below B w w') (hU : U ≤ B) : LayF w' L U os f j h nm := by
  intro i hi
  obtain ⟨o, ka, kn, kc, ho, q0, q1, q2, q3, q4, q5, hk⟩ := hf i hi
  exact ⟨o, ka, kn, kc, ho, q0, q1, q2, q3, q4, q5, hk.below hb hU⟩
theorem LayF.back {w w' : World} {L U : Nat} {os : List LObj} {f : Nat → Value} {j : Nat} {h : Nat → Int} {nm : Nat → ByteArray} (hf : LayF w' L U os f j h nm) {B : Nat} (hb : Below B w w') (hU : U ≤ B) : LayF w L U os f j h nm := by
  intro i hi
  obtain ⟨o, ka, kn, kc, ho, q0, q1, q2, q3, q4, q5, hk⟩ := hf i hi
  refine ⟨o, ka, kn, kc, ho, q0, q1, q2, q3, q4, q5, hk.len, hk.bd, fun hn => ?_⟩
  obtain ⟨b, off, ha, hL, hbU, hc⟩ := hk.at_ hn
  refine ⟨b, off, ha, hL, hbU, fun m hm => ?_⟩
  obtain ⟨e, he, hs, h0, h1⟩ := hc m hm
  rw [hb.cell (by simp; omega)] at h0 h1
  exact ⟨e, he, hs, h0, h1⟩

theorem node_cells {wz : World} {lb j : Nat} {f : Nat → Value} {v0 v1 v2 v3 v4 v5 : Value} (h : wz.rowIs lb 120 192 (putNode f j v0 v1 v2 v3 v4 v5)) (hj : j < 32) :
    wz.cell? ⟨lb, j * 6, none⟩ = some v0 ∧ wz.cell? ⟨lb, j * 6 + 1, none⟩ = some v1 ∧ wz.cell? ⟨lb, j * 6 + 2, none⟩ = some v2 ∧ wz.cell? ⟨lb, j * 6 + 3, none⟩ = some v3 ∧ wz.cell? ⟨lb, j * 6 + 4, none⟩ = some v4 ∧ wz.cell? ⟨lb, j * 6 + 5, none⟩ = some v5 :=
  ⟨by rw [h.cell (i := j * 6) (by omega)]; simp [putNode], by rw [h.cell (i := j * 6 + 1) (by omega)]; simp [putNode], by rw [h.cell (i := j * 6 + 2) (by omega)]; simp [putNode], by rw [h.cell (i := j * 6 + 3) (by omega)]; simp [putNode], by rw [h.cell (i := j * 6 + 4) (by omega)]; simp [putNode], by rw [h.cell (i := j * 6 + 5) (by omega)]; simp [putNode]⟩

set_option maxHeartbeats 2000000 in
theorem layOut_any (a : Option Addr) (n c : Nat) (os : List LObj) (L U : Nat) (w : World) (hU : U ≤ w.heap.size) (H : ObjsAt w L U a n os) :
    Calls Try.prog 75 #[.agg #[.slice a n c]] w fun e w' => LayEnd w L U os e w' ∧ Below w.heap.size w w' := by
  by_cases hn : n = 32
  · subst hn
    have hB : ∀ o1 o2, Below w.heap.size w ((w.alloc o1).alloc o2) := fun o1 o2 => ((Below.refl _ _).alloc (Nat.le_refl _) _).alloc (by simp) _
    obtain ⟨b, off, ha, hL, hbU, hc⟩ := H.at_ (by omega)
    subst ha
    have hlen := H.len
    have HL : Hid (os.length = 32) := hlen.symm
    clear hlen
    obtain ⟨f0, hf0⟩ := rowIs96 (w.alloc (.cells #[.slice (some ⟨b, off, none⟩) 32 c] 25))
    have HF0 : Hid (((w.alloc (.cells #[.slice (some ⟨b, off, none⟩) 32 c] 25)).alloc (.cells Try.zeroCells120 120)).rowIs (w.heap.size + 1) 120 192 f0) := by
      show World.rowIs _ _ _ _ _
      simpa using hf0
    clear hf0
    go_enter Try.func75, Try.ntmps75
    go_wp2_with fail
    go_loopg [16] 32 (fun g i wr => ∃ j : Nat, j ≤ 32 ∧ Hid (g = 32 - j) ∧ i = .int .i64 j ∧ (∃ f, Hid (wr.rowIs (w.heap.size + 1) 120 192 f ∧ LayF w L U os f j (fun _ => -1) (fun _ => ⟨#[]⟩))) ∧ Hid (∀ (i : Nat) o, i < j → os[i]? = some o → objB o = true) ∧ Below w.heap.size w wr)
    case atStart => exact ⟨0, Nat.zero_le _, by show _ = _; omega, rfl, ⟨f0, HF0.out, fun i hi => by omega⟩, fun i o hi => by omega, hB _ _⟩
    case round =>
      obtain ⟨j, hj, hk, rfl, ⟨f, hf⟩, hq, hb⟩ := hrel
      by_cases hlt : j < 32
      · obtain ⟨o, ka, kn, kc, ho, hsz, hd0, hd1, hd2, hd3, hks⟩ := hc j hlt
        have HO : Hid (os[j]? = some o) := ho
        clear ho hc
        rw [← hb.cell (by simp; omega)] at hd0 hd1 hd2 hd3
        have hlt' : (j : Int) < 32 := by omega
        have hj0 : (0 : Int) ≤ (j : Int) := by omega
        have hbl : b < wr.heap.size := by have := hb.size; omega
        have hrl := hf.out.1.lt
        go_upto_region 7 with fail
        go_cut [] (fun wx => Hid (wx.rowIs (w.heap.size + 1) 120 192 (putNode f j (.int .i64 o.kind) (.int .i64 o.ver) (.int .i64 (-1)) (.string ⟨#[]⟩) (.string o.text) (.slice ka kn kc))) ∧ Below w.heap.size w wx)
        case first =>
          have hA : Below w.heap.size w (wr.alloc (Obj.cells #[.int .i64 o.kind, .int .i64 o.ver, .string o.text, .slice ka kn kc] 34)) := hb.alloc hb.size _
          have hr1 : (wr.alloc (Obj.cells #[.int .i64 o.kind, .int .i64 o.ver, .string o.text, .slice ka kn kc] 34)).rowIs (w.heap.size + 1) 120 192 f := hf.out.1.alloc _
          have HR1 : Hid ((wr.alloc (Obj.cells #[.int .i64 o.kind, .int .i64 o.ver, .string o.text, .slice ka kn kc] 34)).rowIs (w.heap.size + 1) 120 192 f) := hr1
          clear hr1
          go_region_with (go_at_call 113; go_must (refine (nodeOf_any _ _ _ _ _ _ _).mono ?_; rintro x w2 ⟨rfl, hb2⟩; have hr2 : w2.rowIs (w.heap.size + 1) 120 192 f := HR1.out.drew.of_block (hb2.block _ (by simp; omega)); have g0 := hr2.cell (i := j * 6) (by omega); have g1 := hr2.cell (i := j * 6 + 1) (by omega); have g2 := hr2.cell (i := j * 6 + 2) (by omega); have g3 := hr2.cell (i := j * 6 + 3) (by omega); have g4 := hr2.cell (i := j * 6 + 4) (by omega); have g5 := hr2.cell (i := j * 6 + 5) (by omega); have z0 := hr2.frozen (j * 6); have z1 := hr2.frozen (j * 6 + 1); have z2 := hr2.frozen (j * 6 + 2); have z3 := hr2.frozen (j * 6 + 3); have z4 := hr2.frozen (j * 6 + 4); have z5 := hr2.frozen (j * 6 + 5); have HR2 : Hid (w2.rowIs (w.heap.size + 1) 120 192 f) := hr2; clear hr2))
          all_goals
            go_wp2_with fail
            go_meet
            exact ⟨rowIs_put HR2.out j _ _ _ _ _ _, by
              have hb3 : Below w.heap.size w w2 := (hA.drew).trans (hb2.mono (by simp; omega))
              repeat (first | exact hb3 | refine Below.setCell ?_ (by simp) _)⟩
        case rest =>
          clear hd0 hd1 hd2 hd3 hb hbl hrl
          obtain ⟨hrow, hb⟩ := hcut
          have HF : Hid (LayF w L U os f j (fun _ => -1) (fun _ => ⟨#[]⟩)) := hf.out.2
          clear hf
          obtain ⟨g0, g1, g2, g3, g4, g5⟩ := node_cells hrow.out hlt
          go_wp2_with fail
          refine (verOk_any _ _ _ _ _).mono ?_
          rintro x w3 ⟨rfl, hb3⟩
          have hrow3 := hrow.out.of_block (hb3.block _ hrow.out.lt)
          obtain ⟨k0, k1, k2, k3, k4, k5⟩ := node_cells hrow3 hlt
          have HROW3 : Hid (w3.rowIs (w.heap.size + 1) 120 192 (putNode f j (.int .i64 o.kind) (.int .i64 o.ver) (.int .i64 (-1)) (.string ⟨#[]⟩) (.string o.text) (.slice ka kn kc))) := hrow3
          have hb4 : Below w.heap.size w w3 := hb.trans (hb3.mono hb.size)
          clear hrow3 g0 g1 g2 g3 g4 g5 hb hb3 hrow
          cases hv : verB o.kind o.ver
          · have HV : Hid (verB o.kind o.ver = false) := hv
            clear hv
            go_wp2_with fail
            go_ret2
            exact ⟨.inl ⟨rfl, specOk_obj HO.out (by unfold objB; rw [HV.out, Bool.false_and])⟩, hb4⟩
          · have HV : Hid (verB o.kind o.ver = true) := hv
            clear hv
            go_wp2_with fail
            refine (partsOk_any _ _ _ _ _ _ _ _ _ L U _ (by have := hb4.size; omega) hsz (hks.below hb4 hU)).mono ?_
            rintro x w5 ⟨rfl, hb5⟩
            have hrow5 := HROW3.out.of_block (hb5.block _ HROW3.out.lt)
            have HROW5 : Hid (w5.rowIs (w.heap.size + 1) 120 192 (putNode f j (.int .i64 o.kind) (.int .i64 o.ver) (.int .i64 (-1)) (.string ⟨#[]⟩) (.string o.text) (.slice ka kn kc))) := hrow5
            have hb6 : Below w.heap.size w w5 := hb4.trans (hb5.mono hb4.size)
            clear hrow5 k0 k1 k2 k3 k4 k5 hb4 hb5 HROW3
            have hpe : partsB ⟨o.kind, o.ver, o.text, o.kids⟩ = partsB o := rfl
            rw [hpe]
            clear hpe
            cases hp : partsB o
            · have HP : Hid (partsB o = false) := hp
              clear hp
              go_wp2_with fail
              go_ret2
              exact ⟨.inl ⟨rfl, specOk_obj HO.out (objB_parts HP.out)⟩, hb6⟩
            · have HP : Hid (partsB o = true) := hp
              clear hp
              go_wp2_with fail
              go_roundg (32 - (j + 1))
              case measure => have := hk.out; omega
              case rel =>
                refine ⟨j + 1, by omega, rfl, by go_num, ⟨_, HROW5.out, layF_put HF.out HO.out hks⟩, fun i o' hi ho' => ?_, hb6⟩
                by_cases e : i = j
                · subst e
                  rw [HO.out] at ho'
                  cases ho'
                  unfold objB
                  rw [HV.out, HP.out]
                  rfl
                · exact hq.out i o' (by omega) ho'
      · have hj32 : j = 32 := by omega
        subst hj32
        have hall : ∀ (i : Nat) o, os[i]? = some o → objB o = true := fun i o ho => hq.out i o (by have := (List.getElem?_eq_some_iff.1 ho).1; have := HL.out; omega) ho
        have HALL : Hid (∀ (i : Nat) o, os[i]? = some o → objB o = true) := hall
        have HI : Hid (IdsIn os) := ids_of_ok hall
        clear hall hq
        obtain ⟨o0, ka0, kn0, kc0, ho0, p0, p1, p2, p3, p4, p5, hks0⟩ := hf.out.2 0 (by omega)
        have g0 := hf.out.1.cell (i := 0) (by omega)
        simp only [Nat.zero_mul] at p0
        rw [p0] at g0
        have HO0 : Hid (kindOf os 0 = o0.kind) := kindOf_at ho0
        clear ho0 p0 p1 p2 p3 p4 p5 hks0
        by_cases hk0 : o0.kind = 2
        · have t0 : (o0.kind != 2) = false := by simpa using hk0
          have HK0 : Hid (kindOf os 0 = 2) := by show _ = _; rw [HO0.out]; exact hk0
          clear hk0
          go_wp2_with fail
          refine (settle_any (w.heap.size + 1) os L U f _ HL.out HI.out (by omega) hf.out.1 (hf.out.2.below hb hU)).mono ?_
          rintro x w2 ⟨⟨r, rfl, hr1, hr2⟩, hb2⟩
          have hb3 : Below w.heap.size w w2 := hb.trans (hb2.mono (by omega))
          cases r
          · have HN : Hid (¬ Named os) := fun h => by cases hr1.2 h
            clear hr1 hr2
            go_wp2_with fail
            go_ret2
            exact ⟨.inl ⟨rfl, specOk_no (fun h => HN.out h.2.2.2.1)⟩, hb3⟩
          · have HN : Hid (Named os) := hr1.1 rfl
            obtain ⟨f2, hf2, hlay2⟩ := hr2 rfl
            clear hr1 hr2
            have hlay3 : LayF w L U os f2 32 (fun i => homeIn (flat os) i) (fun i => nameIn (flat os) i) := hlay2.back hb hU
            have HF2 : Hid (w2.rowIs (w.heap.size + 1) 120 192 f2 ∧ LayF w L U os f2 32 (fun i => homeIn (flat os) i) (fun i => nameIn (flat os) i)) := ⟨hf2, hlay3⟩
            clear hf2 hlay2 hlay3
            go_wp2_with fail
            refine (come_any (w.heap.size + 1) os L U f2 _ w HL.out HALL.out HN.out HF2.out.1 HF2.out.2).mono ?_
            rintro x w4 ⟨⟨r, rfl, hr1⟩, hb4⟩
            have hb5 : Below w.heap.size w w4 := hb3.trans (hb4.mono hb3.size)
            have HR4 : Hid (w4.rowIs (w.heap.size + 1) 120 192 f2) := HF2.out.1.of_block (hb4.block _ HF2.out.1.lt)
            cases r
            · have HC : Hid (¬ Comes os) := fun h => by cases hr1.2 h
              clear hr1
              go_wp2_with fail
              go_ret2
              exact ⟨.inl ⟨rfl, specOk_no (fun h => HC.out h.2.2.2.2)⟩, hb5⟩
            · have HC : Hid (Comes os) := hr1.1 rfl
              clear hr1
              go_wp2_with fail
              go_ret2
              exact ⟨.inr ⟨w.heap.size + 1, f2, rfl, (specOk_iff os).2 ⟨HL.out, HALL.out, HK0.out, HN.out, HC.out⟩, by omega, HR4.out, HF2.out.2⟩, hb5⟩
        · have t0 : (o0.kind != 2) = true := by simpa using hk0
          have HK0 : Hid (kindOf os 0 ≠ 2) := by show _ ≠ _; rw [HO0.out]; exact hk0
          clear hk0
          go_wp2_with fail
          go_ret2
          exact ⟨.inl ⟨rfl, specOk_top HK0.out⟩, hb⟩
  · have t0 : ((n : Int) != 32) = true := by simp; omega
    have HN : Hid (os.length ≠ 32) := by rw [← H.len]; exact hn
    clear hn
    go_enter Try.func75, Try.ntmps75
    go_wp2_with fail
    go_ret2
    exact ⟨.inl ⟨rfl, specOk_len HN.out⟩, (Below.refl _ _).alloc (Nat.le_refl _) _⟩
end Go.Proofs.Ytjenldenggaljaa
