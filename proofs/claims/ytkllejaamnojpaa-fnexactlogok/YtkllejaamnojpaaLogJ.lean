/- Logs: the numbers that a list names, of the specification. -/
import Derived.Test.YtkllejaamnojpaaLogI
import Derived.Test.YtkllejaamnojpaaWorn
namespace Go.Proofs.Ytkllejaamnojpaa
open Go.RowKit

theorem OwnInts.keep {w w' : World} {B g n cap : Nat} {l : List Nat} (h : OwnInts w B (.slice (some ⟨g, 0, none⟩) n cap) l) (hb : w'.heap[g]? = w.heap[g]?) : OwnInts w' B (.slice (some ⟨g, 0, none⟩) n cap) l := by
  rcases h with ⟨h0, h1⟩
  refine ⟨h0, ?_⟩
  rcases h1 with ⟨e, _⟩ | ⟨g', cap', cur, e, h2, h3, h4⟩
  · cases e
  · cases e
    exact .inr ⟨g, cap, cur, rfl, h2, by rw [hb]; exact h3, h4⟩
/-- What the inner round holds of the numbers of one. -/
def LogIdsIn (w : World) (C g : Nat) (a : Option Addr) (ids : List Nat) : Prop := ∀ i, i < ids.length → ∃ q k, a = some ⟨q, 0, none⟩ ∧ C ≤ q ∧ q < w.heap.size ∧ q ≠ g ∧ ids[i]? = some k ∧ w.cell? ⟨q, i, none⟩ = some (.int .i64 (k : Nat))

set_option maxHeartbeats 1000000 in
set_option maxRecDepth 20000 in
theorem specLogIds (a : Option Addr) (n c : Nat) (ops : List LOp) (L U : Nat) (w : World) (hU : U ≤ w.heap.size) (H : OpsAt w L U a n ops) :
    Calls Try.prog 37 #[.slice a n c] w fun e w' => (∃ v, e = .returned v ∧ Hid (OwnInts w' w.heap.size v (logIds ops))) ∧ Below w.heap.size w w' := by
  have hbd := H.bd
  have hlen : Hid (n = ops.length) := H.len
  unfold maxLen at hbd
  go_enter Try.func37, Try.ntmps37
  go_wp2_with fail
  go_loopg [3, 4] n (fun gg v i wr => ∃ j : Nat, j ≤ n ∧ j ≤ 60 ∧ Hid (gg = n - j) ∧ i = .int .i64 j ∧ (∃ g m cap, v = .slice (some ⟨g, 0, none⟩) m cap ∧ w.heap.size ≤ g ∧ g < wr.heap.size ∧ Hid (m = (logIdsL (ops.take j)).length) ∧ Hid (OwnInts wr w.heap.size (.slice (some ⟨g, 0, none⟩) m cap) (logIdsL (ops.take j)))) ∧ Below w.heap.size w wr)
  case atStart => exact ⟨0, Nat.zero_le _, by omega, rfl, rfl, ⟨_, _, _, rfl, Nat.le_refl _, by simp, rfl, OwnInts.empty _ _ _ rfl (Nat.le_refl _)⟩, (Below.refl _ _).alloc (Nat.le_refl _) _⟩
  case round =>
    obtain ⟨j, hj, hj6, hk, rfl, ⟨g, m, cap, rfl, hg1, hg2, hm, hown⟩, hb⟩ := hrel
    have hzz := hb.size
    by_cases hlt : j < n
    · by_cases hlt6 : j < 60
      · obtain ⟨b, off, ha, hL, hbU, hce⟩ := H.at_ (by omega)
        subst ha
        obtain ⟨x, he, hsz, hat⟩ := hce j (by omega)
        obtain ⟨u0, u1, u2, u3, u4, u5, u6⟩ := hat.of_block (hb.block b (by omega))
        have hlt' : (j : Int) < (n : Int) := by omega
        have hlt6' : (j : Int) < 60 := by omega
        have HS : Hid (logIdsL (ops.take (j + 1)) = putAll (logIdsL (ops.take j)) (opIds x)) := by show _ = _; rw [take_snocX he, logIdsL_snoc]
        have HID := fun w => opIds_any x w hsz.name hsz.name2 hsz.text
        simp only [LOp.val] at HID
        clear he hce hat hsz
        go_wp2_with fail
        refine (HID _).mono ?_
        rintro e w1 ⟨⟨v5, rfl, hv5⟩, hb1⟩
        have hz1 := hb1.size
        obtain ⟨a5, c5, rfl, h5⟩ := hv5.out.form
        have hle5 := opIds_le x
        obtain ⟨C, hC⟩ : ∃ C, C = wr.heap.size := ⟨_, rfl⟩
        have HI : Hid (LogIdsIn w1 C g a5 (opIds x)) := fun i hi => by
          obtain ⟨q, k, e1, e2, e3, e4, e5⟩ := h5 i hi
          exact ⟨q, k, e1, by omega, e3, by omega, e4, e5⟩
        have hownA : Hid (OwnInts w1 w.heap.size (.slice (some ⟨g, 0, none⟩) m cap) (logIdsL (ops.take j))) := hown.out.keep (hb1.block g hg2)
        have hbA : Below w.heap.size w w1 := hb.trans (hb1.mono hb.size)
        generalize hn5 : (opIds x).length = n5 at *
        clear h5 hv5 HID u0 u1 u2 u3 u4 u5 u6
        go_wp2_with fail
        go_loopg [3, 6] n5 (fun gg v i wi => ∃ k : Nat, k ≤ n5 ∧ Hid (gg = n5 - k) ∧ i = .int .i64 k ∧ (∃ g m cap, v = .slice (some ⟨g, 0, none⟩) m cap ∧ w.heap.size ≤ g ∧ g < wi.heap.size ∧ Hid (m = (putAll (logIdsL (ops.take j)) ((opIds x).take k)).length) ∧ Hid (OwnInts wi w.heap.size (.slice (some ⟨g, 0, none⟩) m cap) (putAll (logIdsL (ops.take j)) ((opIds x).take k))) ∧ Hid (LogIdsIn wi C g a5 (opIds x))) ∧ Below w.heap.size w wi ∧ C ≤ wi.heap.size)
        case atStart => exact ⟨0, Nat.zero_le _, rfl, rfl, ⟨_, _, _, rfl, hg1, by omega, hm.out, hownA.out, HI⟩, hbA, by omega⟩
        case round =>
          clear hownA HI hb1 hm hown
          obtain ⟨k, hk5, hkk, rfl, ⟨g, m, cap, rfl, hg1, hg2, hm, hown, HI⟩, hbi, hzi⟩ := hrel
          by_cases hl5 : k < n5
          · obtain ⟨q, y, rfl, hq1, hq2, hq3, hq4, hq5⟩ := HI.out k (by omega)
            have hl5' : (k : Int) < (n5 : Int) := by omega
            have HT : Hid (putAll (logIdsL (ops.take j)) ((opIds x).take (k + 1)) = putI y (putAll (logIdsL (ops.take j)) ((opIds x).take k))) := by show _ = _; rw [take_snocX hq4, putAll_snoc]
            have hm32 : m ≤ 1000000 := by
              rw [hm.out]
              have h1 := putAll_le ((opIds x).take k) (logIdsL (ops.take j))
              have h2 := logIdsL_le (ops.take j)
              have h3 : ((opIds x).take k).length ≤ k := by simp; omega
              omega
            clear hq4
            go_wp2_with fail
            refine (putI_anyF w.heap.size g cap m y _ _ hm.out hm32 hbi.size hown.out).mono ?_
            rintro e w2 hp
            have hbl : Below w.heap.size w w2 := below_put hbi hp.plain hg1 hbi.size
            obtain ⟨g', m', cap', rfl, hm', hown', hgr, hfr⟩ := hp
            have hg1' : w.heap.size ≤ g' := (World.ownsRow.lt hown' g' rfl).1
            have hg2' : g' < w2.heap.size := (World.ownsRow.lt hown' g' rfl).2
            have HM : Hid (m' = (putAll (logIdsL (ops.take j)) ((opIds x).take (k + 1))).length) := by show _ = _; rw [HT.out]; exact hm'
            have HO : Hid (OwnInts w2 w.heap.size (.slice (some ⟨g', 0, none⟩) m' cap') (putAll (logIdsL (ops.take j)) ((opIds x).take (k + 1)))) := by show OwnInts _ _ _ _; rw [HT.out]; exact hown'
            have hz2 := hgr.size
            have HI2 : Hid (LogIdsIn w2 C g' (some ⟨q, 0, none⟩) (opIds x)) := fun i hi => by
              obtain ⟨q', y', e1, e2, e3, e4, e5, e6⟩ := HI.out i hi
              cases e1
              refine ⟨q, y', rfl, e2, by omega, by rcases hfr with h | h <;> omega, e5, ?_⟩
              rw [hgr.cell_far _ (by simpa using e3) (by simpa using e4)]
              exact e6
            clear hm' hown' hgr hfr
            go_wp2_with fail
            go_roundg (n5 - (k + 1))
            case measure => have := hkk.out; omega
            case rel => exact ⟨k + 1, by omega, rfl, by go_num, ⟨g', m', cap', rfl, hg1', hg2', HM.out, HO.out, HI2.out⟩, hbl, by omega⟩
          · have HE : Hid ((opIds x).take k = opIds x) := by show _ = _; rw [List.take_of_length_le (by omega)]
            have HM : Hid (m = (logIdsL (ops.take (j + 1))).length) := by show _ = _; rw [HS.out, ← HE.out]; exact hm.out
            have HO : Hid (OwnInts wr w.heap.size (.slice (some ⟨g, 0, none⟩) m cap) (logIdsL (ops.take (j + 1)))) := by show OwnInts _ _ _ _; rw [HS.out, ← HE.out]; exact hown.out
            clear hm hown HI
            go_wp2_with fail
            go_roundg (n - (j + 1))
            case measure => have := hk.out; omega
            case rel => exact ⟨j + 1, by omega, by omega, rfl, by go_num, ⟨g, m, cap, rfl, hg1, hg2, HM.out, HO.out⟩, hbi⟩
      · obtain rfl : j = 60 := by omega
        have hlt' : (60 : Int) < (n : Int) := by omega
        go_wp2_with fail
        go_ret
        exact ⟨⟨_, rfl, hown.out⟩, hb⟩
    · have HE : Hid (logIdsL (ops.take j) = logIds ops) := by show _ = _; unfold logIds; rw [List.take_of_length_le (l := ops) (i := j) (by have := hlen.out; omega), List.take_of_length_le (l := ops) (i := 60) (by have := hlen.out; omega)]
      have hlt' : ¬ (j : Int) < (n : Int) := by omega
      go_wp2_with fail
      go_ret
      exact ⟨⟨_, rfl, by show OwnInts _ _ _ _; rw [← HE.out]; exact hown.out⟩, hb⟩
end Go.Proofs.Ytkllejaamnojpaa
