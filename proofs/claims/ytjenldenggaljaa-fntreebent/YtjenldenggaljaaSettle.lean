/- Each node is told its home: the contract of settle. -/
import Derived.Test.YtjenldenggaljaaLay
import Derived.BigRegion
namespace Go.Proofs.Ytjenldenggaljaa
open Go.RowKit

theorem iff_no {p : Prop} (h : ¬ p) : (false = true ↔ p) := ⟨(fun e => by cases e), fun hp => absurd hp h⟩

/-- How settle ends: with whether all is named just once; and if so, each node knows its home and its name. -/
def SettleEnd (w : World) (L U lb : Nat) (os : List LObj) (e : Ending) (w' : World) : Prop := ∃ r : Bool, e = .returned (.bool r) ∧ (r = true ↔ Named os) ∧ (r = true → ∃ f, w'.rowIs lb 120 192 f ∧ LayF w L U os f 32 (fun i => homeIn (flat os) i) (fun i => nameIn (flat os) i))

set_option maxHeartbeats 2000000 in
theorem settle_any (lb : Nat) (os : List LObj) (L U : Nat) (f0 : Nat → Value) (w : World) (hlen : os.length = 32) (hI : IdsIn os) (hU : U ≤ lb) (hrow0 : w.rowIs lb 120 192 f0) (hlay0 : LayF w L U os f0 32 (fun _ => -1) (fun _ => ⟨#[]⟩)) :
    Calls Try.prog 116 #[.pointer (some ⟨lb, 0, none⟩)] w fun e w' => SettleEnd w L U lb os e w' ∧ Below lb w w' := by
  have HL : Hid (os.length = 32) := hlen
  have HR0 : Hid (w.rowIs lb 120 192 f0) := hrow0
  clear hlen hrow0
  go_enter Try.func116, Try.ntmps116
  go_wp2_with fail
  go_loopg [8] 32 (fun g i wr => ∃ j : Nat, j ≤ 32 ∧ Hid (g = 32 - j) ∧ i = .int .i64 j ∧ (∃ f, Hid (wr.rowIs lb 120 192 f ∧ LayF w L U os f 32 (fun i => homeIn (flat (os.take j)) i) (fun i => nameIn (flat (os.take j)) i))) ∧ Hid (Live os (flat (os.take j)) ∧ Uniq (flat (os.take j))) ∧ Below lb w wr)
  case atStart => exact ⟨0, Nat.zero_le _, by show _ = _; omega, rfl, ⟨f0, HR0.out, hlay0⟩, ⟨fun x hx => by simp [flat, flatFrom] at hx, by simpa [flat, flatFrom] using uniq_nil⟩, Below.refl _ _⟩
  case round =>
    obtain ⟨j, hj, hk, rfl, ⟨f, hf⟩, hq, hb⟩ := hrel
    by_cases hlt : j < 32
    · obtain ⟨o, ka, kn, kc, ho, p0, p1, p2, p3, p4, p5, hks⟩ := hf.out.2 j hlt
      have HO : Hid (os[j]? = some o) := ho
      clear ho p0 p1 p2 p3 p4
      have g5 := hf.out.1.cell (i := j * 6 + 5) (by omega)
      rw [p5] at g5
      clear p5
      have hlt' : (j : Int) < 32 := by omega
      have hj0 : (0 : Int) ≤ (j : Int) := by omega
      have hkb := hks.bd
      unfold maxLen at hkb
      have HKL : Hid (kn = o.kids.length) := hks.len
      go_wp2_with fail
      go_loopg [18] kn (fun g i wi => ∃ m : Nat, m ≤ kn ∧ Hid (g = kn - m) ∧ i = .int .i64 m ∧ (∃ f, Hid (wi.rowIs lb 120 192 f ∧ LayF w L U os f 32 (fun i => homeIn (flat (os.take j) ++ tagged j (o.kids.take m)) i) (fun i => nameIn (flat (os.take j) ++ tagged j (o.kids.take m)) i))) ∧ Hid (Live os (flat (os.take j) ++ tagged j (o.kids.take m)) ∧ Uniq (flat (os.take j) ++ tagged j (o.kids.take m))) ∧ Below lb w wi)
      case atStart => exact ⟨0, Nat.zero_le _, by show _ = _; omega, rfl, ⟨f, hf.out.1, by simpa [tagged] using hf.out.2⟩, by have := hq.out; simpa [tagged, Hid] using this, hb⟩
      case round =>
        clear g5 hb hq hf f
        obtain ⟨m, hm, hk2, rfl, ⟨f, hf⟩, hq2, hb⟩ := hrel
        by_cases hlt2 : m < kn
        · obtain ⟨b2, off2, ha2, hL2, hbU2, hd⟩ := hks.at_ (by omega)
          subst ha2
          obtain ⟨e, he, hez, hd0, hd1⟩ := hd m hlt2
          obtain ⟨id, hid, hid0⟩ : ∃ id : Nat, e.id = id ∧ id < 32 := by
            have := hI o (List.mem_of_getElem? HO.out) e (List.mem_of_getElem? he)
            exact ⟨e.id.toNat, by omega, by omega⟩
          rw [hid] at hd1
          have HE : Hid (o.kids[m]? = some e ∧ e.id = id) := ⟨he, hid⟩
          clear he hd hid
          rw [← hb.cell (by simp; omega)] at hd0 hd1
          obtain ⟨o2, ka2, kn2, kc2, ho2, p0, p1, p2, p3, p4, p5, hks2⟩ := hf.out.2 id hid0
          have g0 := hf.out.1.cell (i := id * 6) (by omega)
          have g1 := hf.out.1.cell (i := id * 6 + 1) (by omega)
          have g2 := hf.out.1.cell (i := id * 6 + 2) (by omega)
          have g3 := hf.out.1.cell (i := id * 6 + 3) (by omega)
          have z2 := hf.out.1.frozen (id * 6 + 2)
          have z3 := hf.out.1.frozen (id * 6 + 3)
          rw [p0] at g0
          rw [p1] at g1
          rw [p2] at g2
          rw [p3] at g3
          have HO2 : Hid (kindOf os id = o2.kind) := kindOf_at ho2
          clear ho2 p0 p1 p2 p3 p4 p5 hks2
          have hid1 : (0 : Int) ≤ (id : Int) := by omega
          have hid2 : (id : Int) < 32 := by omega
          have hlt2' : (m : Int) < (kn : Int) := by omega
          have hlw : lb < wr.heap.size := hf.out.1.lt
          have hbw : b2 < wr.heap.size := by omega
          generalize hP : flat (os.take j) ++ tagged j (o.kids.take m) = P at hf hq2 g2 g3
          have HP : Hid (flat (os.take j) ++ tagged j (o.kids.take m) = P) := hP
          clear hP
          by_cases hlive : o2.kind = 0
          · have t1 : (o2.kind != 0) = false := by simpa using hlive
            have HV : Hid (o2.kind = 0) := hlive
            clear hlive
            go_wp2_with fail
            go_quiet (fail)
            go_wp2_with (go_at_call 118; refine (there_any _ _ _ _ _).mono ?_; rintro x w1 ⟨rfl, rfl⟩)
            go_ret
            exact ⟨⟨false, rfl, iff_no (named_no_live HO.out HE.out.1 (by rw [HE.out.2, Int.toNat_natCast, HO2.out]; exact HV.out)), (fun h => by cases h)⟩, (by repeat (first | exact hb | refine Below.alloc ?_ (by first | omega | (simp; done) | (simp; omega)) _ | refine below_drewN ?_ _ | refine Below.drew ?_ | refine Below.setCell ?_ (by exact Nat.le_refl _) _))⟩
          · have t1 : (o2.kind != 0) = true := by simpa using hlive
            have HV : Hid (o2.kind ≠ 0) := hlive
            clear hlive
            by_cases hoff : homeIn P id = -1
            · have t2 : (homeIn P id != -1) = false := by simpa using hoff
              have HOff : Hid (Off P e.id) := by show Off _ _; rw [HE.out.2]; exact off_iff.1 hoff
              clear hoff
              go_wp2_with fail
              go_quiet (fail)
              go_wp2_with (go_at_call 118; refine (there_any _ _ _ _ _).mono ?_; rintro x w1 ⟨rfl, rfl⟩)
              go_region
              go_wp2_with fail
              go_roundg (kn - (m + 1))
              case measure => have := hk2.out; omega
              case rel =>
                have hB1 : Below lb w (wr.alloc (Obj.cells #[Value.string e.name, Value.int IntKind.i64 id] 47)) := hb.alloc (by omega) _
                have r1 : ((((wr.alloc (Obj.cells #[Value.string e.name, Value.int IntKind.i64 id] 47)).drewN nq).setCell ⟨lb, id * 6 + 2, none⟩ (.int .i64 j)).setCell ⟨lb, id * 6 + 3, none⟩ (.string e.name)).rowIs lb 120 192 _ := (World.rowIs.set (w := (wr.alloc (Obj.cells #[Value.string e.name, Value.int IntKind.i64 id] 47)).drewN nq) (hf.out.1.alloc _) (id * 6 + 2) (.int .i64 j)).set (id * 6 + 3) (.string e.name)
                have hsn : flat (os.take j) ++ tagged j (o.kids.take (m + 1)) = P ++ [(j, e)] := by rw [tagged_take HE.out.1, ← List.append_assoc, HP.out]
                refine ⟨m + 1, by omega, rfl, by go_num, ⟨_, (r1.alloc _).drew, ?_⟩, ?_, (by repeat (first | exact hb | refine Below.alloc ?_ (by first | omega | (simp; done) | (simp; omega)) _ | refine below_drewN ?_ _ | refine Below.drew ?_ | refine Below.setCell ?_ (by exact Nat.le_refl _) _))⟩
                · rw [hsn]
                  refine layF_congr (layF_set hf.out.2 id j e.name) (fun i hi => ?_) (fun i hi => ?_)
                  · rw [homeIn_snoc HOff.out]
                    have := HE.out.2
                    by_cases hii : i = id
                    · rw [if_pos hii, if_pos (by show e.id = _; omega)]
                    · rw [if_neg hii, if_neg (by show ¬ e.id = _; omega)]
                  · rw [nameIn_snoc HOff.out]
                    have := HE.out.2
                    by_cases hii : i = id
                    · rw [if_pos hii, if_pos (by show e.id = _; omega)]
                    · rw [if_neg hii, if_neg (by show ¬ e.id = _; omega)]
                · rw [hsn]
                  exact ⟨live_snoc hq2.out.1 (by show kindOf os e.id.toNat ≠ 0; rw [HE.out.2, Int.toNat_natCast, HO2.out]; exact HV.out), uniq_snoc hq2.out.2 HOff.out⟩
            · have t2 : (homeIn P id != -1) = true := by simpa using hoff
              have HOff : Hid (homeIn P id ≠ -1) := hoff
              clear hoff
              go_wp2_with fail
              go_quiet (fail)
              go_wp2_with (go_at_call 118; refine (there_any _ _ _ _ _).mono ?_; rintro x w1 ⟨rfl, rfl⟩)
              go_ret
              exact ⟨⟨false, rfl, iff_no (named_no_twice HO.out HE.out.1 (by rw [HP.out, HE.out.2]; exact fun h => HOff.out (homeIn_off h))), (fun h => by cases h)⟩, (by repeat (first | exact hb | refine Below.alloc ?_ (by first | omega | (simp; done) | (simp; omega)) _ | refine below_drewN ?_ _ | refine Below.drew ?_ | refine Below.setCell ?_ (by exact Nat.le_refl _) _))⟩
        · go_wp2_with fail
          go_roundg (32 - (j + 1))
          case measure => have := hk.out; omega
          case rel =>
            have h1 := hf.out
            have h2 := hq2.out
            rw [List.take_of_length_le (l := o.kids) (i := m) (by have := HKL.out; omega)] at h1 h2
            rw [← flat_take HO.out] at h1 h2
            exact ⟨j + 1, by omega, rfl, by go_num, ⟨f, h1⟩, h2, hb⟩
    · have hlt' : ¬ (j : Int) < 32 := by omega
      have h1 := hf.out
      have h2 := hq.out
      rw [List.take_of_length_le (by have := HL.out; omega)] at h1 h2
      have HF : Hid (wr.rowIs lb 120 192 f ∧ LayF w L U os f 32 (fun i => homeIn (flat os) i) (fun i => nameIn (flat os) i)) := h1
      have HQ : Hid (Live os (flat os) ∧ Uniq (flat os)) := h2
      clear h1 h2 hf hq
      go_wp2_with fail
      go_loopg [54] 32 (fun g i wi => ∃ m : Nat, m ≤ 32 ∧ Hid (g = 32 - m) ∧ i = .int .i64 m ∧ Hid (∀ i : Nat, 1 ≤ i → i < m → kindOf os i ≠ 0 → ¬ Off (flat os) i) ∧ Hid (wi.rowIs lb 120 192 f) ∧ Below lb w wi)
      case atStart => exact ⟨0, Nat.zero_le _, by show _ = _; omega, rfl, fun i h0 hi => by omega, HF.out.1, hb⟩
      case round =>
        clear hb
        obtain ⟨m, hm, hk2, rfl, hq2, hrow, hb⟩ := hrel
        by_cases hlt2 : m < 32
        · obtain ⟨o2, ka2, kn2, kc2, ho2, p0, p1, p2, p3, p4, p5, hks2⟩ := HF.out.2 m hlt2
          have g0 := hrow.out.cell (i := m * 6) (by omega)
          have g1 := hrow.out.cell (i := m * 6 + 1) (by omega)
          have g2 := hrow.out.cell (i := m * 6 + 2) (by omega)
          have g3 := hrow.out.cell (i := m * 6 + 3) (by omega)
          rw [p0] at g0
          rw [p1] at g1
          rw [p2] at g2
          rw [p3] at g3
          have HO2 : Hid (kindOf os m = o2.kind) := kindOf_at ho2
          clear ho2 p0 p1 p2 p3 p4 p5 hks2
          have hlw : lb < wr.heap.size := hrow.out.lt
          have hm0 : (0 : Int) ≤ (m : Int) := by omega
          have hlt2' : (m : Int) < 32 := by omega
          by_cases hm1 : m = 0
          · have t1 : ((m : Int) != 0) = false := by simpa using hm1
            have HM : Hid (m = 0) := hm1
            clear hm1
            go_wp2_with fail
            go_roundg (32 - (m + 1))
            case measure => have := hk2.out; omega
            case rel => exact ⟨m + 1, by omega, rfl, by go_num, fun i h0 hi => by have := HM.out; omega, hrow.out, hb⟩
          · have t1 : ((m : Int) != 0) = true := by simpa using hm1
            have HM : Hid (m ≠ 0) := hm1
            clear hm1
            by_cases hlive : o2.kind = 0
            · have t2 : (o2.kind != 0) = false := by simpa using hlive
              have HV : Hid (o2.kind = 0) := hlive
              clear hlive
              go_wp2_with (go_at_call 118; refine (there_any _ _ _ _ _).mono ?_; rintro x w1 ⟨rfl, rfl⟩)
              go_roundg (32 - (m + 1))
              case measure => have := hk2.out; omega
              case rel =>
                refine ⟨m + 1, by omega, rfl, by go_num, fun i h0 hi hkd => ?_, hrow.out.alloc _, hb.alloc (by omega) _⟩
                by_cases e : i = m
                · subst e
                  exact absurd (by rw [HO2.out]; exact HV.out) hkd
                · exact hq2.out i h0 (by omega) hkd
            · have t2 : (o2.kind != 0) = true := by simpa using hlive
              have HV : Hid (o2.kind ≠ 0) := hlive
              clear hlive
              by_cases hoff : homeIn (flat os) m = -1
              · have t3 : (homeIn (flat os) m == -1) = true := by simpa using hoff
                have HOff : Hid (Off (flat os) m) := off_iff.1 hoff
                clear hoff
                go_wp2_with (go_at_call 118; refine (there_any _ _ _ _ _).mono ?_; rintro x w1 ⟨rfl, rfl⟩)
                go_ret
                exact ⟨⟨false, rfl, iff_no (fun hn => hn.2.2 m (by have := HM.out; omega) hlt2 (by rw [HO2.out]; exact HV.out) HOff.out), (fun h => by cases h)⟩, hb.alloc (by omega) _⟩
              · have t3 : (homeIn (flat os) m == -1) = false := by simpa using hoff
                have HOff : Hid (homeIn (flat os) m ≠ -1) := hoff
                clear hoff
                go_wp2_with (go_at_call 118; refine (there_any _ _ _ _ _).mono ?_; rintro x w1 ⟨rfl, rfl⟩)
                go_roundg (32 - (m + 1))
                case measure => have := hk2.out; omega
                case rel =>
                  refine ⟨m + 1, by omega, rfl, by go_num, fun i h0 hi hkd => ?_, hrow.out.alloc _, hb.alloc (by omega) _⟩
                  by_cases e : i = m
                  · subst e
                    exact fun h => HOff.out (homeIn_off h)
                  · exact hq2.out i h0 (by omega) hkd
        · have hlt2' : ¬ (m : Int) < 32 := by omega
          go_wp2_with fail
          go_ret
          exact ⟨⟨true, rfl, ⟨fun _ => ⟨HQ.out.1, HQ.out.2, fun i h0 hi => hq2.out i h0 (by omega)⟩, fun _ => rfl⟩, fun _ => ⟨f, hrow.out, HF.out.2⟩⟩, hb⟩
end Go.Proofs.Ytjenldenggaljaa
