/- Whether something that is named was turned as often as can be. -/
import Derived.Test.YtdjffkiiglilnaaIds
namespace Go.Proofs.Ytdjffkiiglilnaa
open Go.RowKit

def oldB (os : List LObj) (i : Nat) : Bool := match os[i]? with | some o => decide (1000000 ≤ o.ver) | none => false
def wornB (os : List LObj) (l : List Nat) : Bool := l.any (oldB os)
theorem opIds_le (o : LOp) : (opIds o).length ≤ 3 := by
  have h1 : (opIds1 o).length ≤ 2 := by
    unfold opIds1
    split
    · simp
    · have := putI_le o.dir.toNat [o.id.toNat]; simp at this; omega
  unfold opIds
  split
  · split
    · have := putI_le o.dir2.toNat (opIds1 o); omega
    · omega
  · simp
theorem OwnInts.form {w : World} {B : Nat} {v : Value} {l : List Nat} (h : OwnInts w B v l) : ∃ a c, v = .slice a l.length c ∧ ∀ i, i < l.length → ∃ g k, a = some ⟨g, 0, none⟩ ∧ B ≤ g ∧ g < w.heap.size ∧ l[i]? = some k ∧ w.cell? ⟨g, i, none⟩ = some (.int .i64 (k : Nat)) := by
  by_cases hl : l = []
  · subst hl
    obtain ⟨a, c, rfl⟩ := h.nil
    exact ⟨a, c, rfl, fun i hi => by simp at hi⟩
  · obtain ⟨g, c, rfl, h1, h2, h3⟩ := h.get hl
    refine ⟨_, c, rfl, fun i hi => ?_⟩
    obtain ⟨k, hk, hc⟩ := h3 i hi
    exact ⟨g, k, rfl, h1, h2, hk, hc⟩

set_option maxHeartbeats 1000000 in
set_option maxRecDepth 20000 in
theorem worn_any (a : Option Addr) (n c : Nat) (os : List LObj) (L U : Nat) (o : LOp) (w : World) (hn : 32 ≤ n) (hU : U ≤ w.heap.size) (H : ObjsAt w L U a n os) (h1 : o.name.size ≤ maxLen) (h2 : o.name2.size ≤ maxLen) (h3 : o.text.size ≤ maxLen) :
    Calls Try.prog 124 #[.agg #[.slice a n c], .agg o.val] w fun e w' => e = .returned (.bool (wornB os (opIds o))) ∧ Below w.heap.size w w' := by
  have HIDS := opIds_any o
  have HBD := opIds_bd o
  have hnos := H.len
  have HNOS : Hid (n = os.length) := hnos
  obtain ⟨b, off, ha, hL, hbU, hc⟩ := H.at_ (by omega)
  subst ha
  clear hnos H
  have HCC : Hid (∀ i, i < n → ∃ p, os[i]? = some p ∧ w.cell? ⟨b, off + i * 4 + 1, none⟩ = some (.int .i64 p.ver)) := fun i hi => by
    obtain ⟨p, _, _, _, hp, _, _, hv, _⟩ := hc i hi
    exact ⟨p, hp, hv⟩
  clear hc
  simp only [LOp.val] at *
  go_enter Try.func124, Try.ntmps124
  go_wp2_with fail
  refine (HIDS _ h1 h2 h3).mono ?_
  rintro x w1 ⟨⟨v, rfl, hv⟩, hb1⟩
  have hA : Below w.heap.size w w1 := ((((Below.refl w.heap.size w).alloc (Nat.le_refl _) _).alloc (by simp) _)).trans (hb1.mono (by simp; omega))
  have hbx : w1.cell? ⟨w.heap.size, 0, none⟩ = some (.slice (some ⟨b, off, none⟩) n c) := by rw [hb1.cell (by simp; omega)]; simp [go_sem]
  have hz1 : w.heap.size + 2 ≤ w1.heap.size := by simpa using hb1.size
  obtain ⟨ia, ic, rfl, hcells⟩ := hv.out.form
  have HL : Hid (∀ i ∈ opIds o, i < 32) := HBD
  have HI : Hid (∀ i, i < (opIds o).length → ∃ g k, ia = some ⟨g, 0, none⟩ ∧ w1.cell? ⟨g, i, none⟩ = some (.int .i64 (k : Nat)) ∧ (opIds o)[i]? = some k) := fun i hi => by
    obtain ⟨g, k, h1, _, _, h4, h5⟩ := hcells i hi
    exact ⟨g, k, h1, h5, h4⟩
  clear hv hcells hb1 HBD HIDS
  obtain ⟨m, hm⟩ : ∃ m, Hid (m = (opIds o).length) := ⟨_, rfl⟩
  rw [← hm.out]
  have hm4 : m ≤ 100000 := by rw [hm.out]; have := opIds_le o; omega
  go_wp2_with fail
  go_loopg [6] m (fun k i wr => ∃ j : Nat, j ≤ m ∧ Hid (k = m - j) ∧ i = .int .i64 j ∧ Hid (∀ i, i < j → ∃ k, (opIds o)[i]? = some k ∧ oldB os k = false) ∧ Hid (∃ q, wr = w1.drewN q))
  case atStart => exact ⟨0, Nat.zero_le _, rfl, rfl, fun i hi => by omega, 0, rfl⟩
  case round =>
    obtain ⟨j, hj, hk, rfl, hno, hwr⟩ := hrel
    have hbx' : wr.cell? ⟨w.heap.size, 0, none⟩ = some (.slice (some ⟨b, off, none⟩) n c) := by obtain ⟨q, rfl⟩ := hwr.out; exact hbx
    by_cases hlt : j < m
    · obtain ⟨g, k, rfl, hck, hik⟩ := HI.out j (by rw [← hm.out]; exact hlt)
      have hk32 : k < 32 := HL.out k (List.mem_of_getElem? hik)
      have hkn : (k : Int) < (n : Int) := by omega
      obtain ⟨p, hp, hpv⟩ := HCC.out k (by omega)
      have hck' : wr.cell? ⟨g, j, none⟩ = some (.int .i64 (k : Int)) := by obtain ⟨q, rfl⟩ := hwr.out; exact hck
      have hpv' : wr.cell? ⟨b, off + k * 4 + 1, none⟩ = some (.int .i64 p.ver) := by obtain ⟨q, rfl⟩ := hwr.out; show w1.cell? _ = _; rw [hA.cell (by simp; omega)]; exact hpv
      have HIK : Hid ((opIds o)[j]? = some k) := hik
      have HP : Hid (os[k]? = some p) := hp
      clear hik hp hpv hck
      by_cases hq : 1000000 ≤ p.ver
      · have HO : Hid (wornB os (opIds o) = true) := by show _ = _; unfold wornB; rw [List.any_eq_true]; exact ⟨k, List.mem_of_getElem? HIK.out, by simp [oldB, HP.out, hq]⟩
        go_wp2_with fail
        go_quiet (fail)
        go_wp2_with fail
        go_ret
        exact ⟨ret_bool HO.out.symm, by obtain ⟨q, hq⟩ := hwr.out; rw [hq]; exact hA.trans ⟨rfl, rfl, rfl, Nat.le_refl _, fun _ _ => rfl⟩⟩
      · have HO : Hid (oldB os k = false) := by show _ = _; simp [oldB, HP.out]; omega
        have t1 : decide (1000000 ≤ p.ver) = false := by simpa using hq
        go_wp2_with fail
        go_quiet (fail)
        go_wp2_with fail
        go_roundg (m - (j + 1))
        case measure => have := hk.out; omega
        case rel =>
          refine ⟨j + 1, by omega, rfl, by go_num, fun i hi => ?_, by obtain ⟨q, hq⟩ := hwr.out; exact ⟨q + nq, by rw [hq, World.drewN_drewN]⟩⟩
          rcases Nat.lt_or_ge i j with h | h
          · exact hno.out i h
          · obtain rfl : i = j := by omega
            exact ⟨k, HIK.out, HO.out⟩
    · have HO : Hid (wornB os (opIds o) = false) := by
        show _ = _
        unfold wornB
        rw [List.any_eq_false]
        intro k hk
        obtain ⟨i, hi, hik⟩ := List.getElem_of_mem hk
        obtain ⟨k', h1, h2⟩ := hno.out i (by have := hm.out; omega)
        rw [List.getElem?_eq_getElem hi, hik] at h1
        simp at h1
        subst h1
        simp [h2]
      go_wp2_with fail
      go_ret
      exact ⟨ret_bool HO.out.symm, by obtain ⟨q, hq⟩ := hwr.out; rw [hq]; exact hA.trans ⟨rfl, rfl, rfl, Nat.le_refl _, fun _ _ => rfl⟩⟩
end Go.Proofs.Ytdjffkiiglilnaa
