/- How often each object is named: the contract of the specification. -/
import Derived.Test.YtjenldenggaljaaHome
import Derived.BigRegion
namespace Go.Proofs.Ytjenldenggaljaa
open Go.RowKit

def zs32 : Array Value := madeCells #[.int .i64 0] 32
theorem make32 (w : World) : (Instr.makeSlice 68 (.int .i64 32) (.int .i64 32)).run Try.prog w = .ok (.slice (some ⟨w.heap.size, 0, none⟩) 32 32) (w.alloc (.cells zs32 3)) := by
  have h := run_make_many 68 3 _ 1 8 Try.underlying68 info3 32 (by omega) (by omega) w
  have e : ((32 : Nat) : Int) = 32 := by omega
  rw [e] at h
  exact h

theorem cnt_snoc {es : List LEnt} {m : Nat} {e : LEnt} (h : es[m]? = some e) (p : List (Nat × LEnt)) (j : Nat) (i : Int) :
    cnt (p ++ tagged j (es.take (m + 1))) i = cnt (p ++ tagged j (es.take m)) i + if e.id = i then 1 else 0 := by
  rw [tagged_take h, ← List.append_assoc, cnt_append _ [(j, e)], cnt_one]

set_option maxHeartbeats 1000000 in
theorem l1Homes_any (a : Option Addr) (n c : Nat) (os : List LObj) (L U : Nat) (w : World) (hn : n ≤ 32) (hS : Sizes os 1048576) (hI : IdsIn os) (hU : U ≤ w.heap.size) (H : ObjsAt w L U a n os) :
    Calls Try.prog 81 #[.agg #[.slice a n c]] w fun e w' => (∃ b, e = .returned (.slice (some ⟨b, 0, none⟩) 32 32) ∧ w.heap.size ≤ b ∧ w'.rowIs b 3 32 (fun i => .int .i64 (cnt (flat os) i))) ∧ Below w.heap.size w w' := by
  have hmk := make32
  have hB : ∀ o1 o2, Below w.heap.size w ((w.alloc o1).alloc o2) := fun o1 o2 => ((Below.refl _ _).alloc (Nat.le_refl _) _).alloc (by simp) _
  have hrow : ((w.alloc (.cells #[.slice a n c] 25)).alloc (.cells zs32 3)).rowIs (w.heap.size + 1) 3 32 (fun i => .int .i64 (cnt (flat (os.take 0)) i)) := by
    have := World.rowIs_made (w.alloc (.cells #[.slice a n c] 25)) (.int .i64 0) 32 3
    simpa [flat, flatFrom, cnt, zs32] using this
  have HROW : Hid (((w.alloc (.cells #[.slice a n c] 25)).alloc (.cells zs32 3)).rowIs (w.heap.size + 1) 3 32 (fun i => .int .i64 (cnt (flat (os.take 0)) i))) := hrow
  clear hrow
  go_enter Try.func81, Try.ntmps81
  go_wp2
  go_loopg [4] n (fun g i wr => ∃ j : Nat, j ≤ n ∧ Hid (g = n - j) ∧ i = .int .i64 j ∧ Hid (wr.rowIs (w.heap.size + 1) 3 32 (fun i => .int .i64 (cnt (flat (os.take j)) i))) ∧ wr.cell? ⟨w.heap.size, 0, none⟩ = some (.slice a n c) ∧ Below w.heap.size w wr)
  case atStart => exact ⟨0, Nat.zero_le _, by show _ = _; omega, rfl, HROW.out, by simp [go_sem], hB _ _⟩
  case round =>
    obtain ⟨j, hj, hk, rfl, hq, hx, hb⟩ := hrel
    by_cases hlt : j < n
    · obtain ⟨b, off, ha, hL, hbU, hc⟩ := H.at_ (by omega)
      subst ha
      obtain ⟨o, ka, kn, kc, ho, hsz, hc0, hc1, hc2, hc3, hks⟩ := hc j hlt
      have hkn : kn ≤ 1048576 := by rw [hks.len]; exact hS o (List.mem_of_getElem? ho)
      have HO : Hid (os[j]? = some o) := ho
      clear ho hc hc0 hc1 hc2
      have HKL : Hid (kn = o.kids.length) := hks.len
      go_wp2_with fail
      go_loopg [5] kn (fun g i wi => ∃ m : Nat, m ≤ kn ∧ Hid (g = kn - m) ∧ i = .int .i64 m ∧ Hid (wi.rowIs (w.heap.size + 1) 3 32 (fun i => .int .i64 (cnt (flat (os.take j) ++ tagged j (o.kids.take m)) i))) ∧ wi.cell? ⟨w.heap.size, 0, none⟩ = some (.slice (some ⟨b, off, none⟩) n c) ∧ Below w.heap.size w wi)
      case atStart => exact ⟨0, Nat.zero_le _, by show _ = _; omega, rfl, by show World.rowIs _ _ _ _ _; simpa [tagged] using hq.out, hx, hb⟩
      case round =>
        clear hx hb hq
        obtain ⟨m, hm, hk2, rfl, hq2, hx, hb2⟩ := hrel
        rw [← hb2.cell (by simp; omega)] at hc3
        by_cases hlt2 : m < kn
        · obtain ⟨b2, off2, ha2, hL2, hbU2, hd⟩ := hks.at_ (by omega)
          subst ha2
          obtain ⟨e, he, hez, hd0, hd1⟩ := hd m hlt2
          obtain ⟨id, hid, hid0⟩ : ∃ id : Nat, e.id = id ∧ id < 32 := by
            have := hI o (List.mem_of_getElem? HO.out) e (List.mem_of_getElem? he)
            exact ⟨e.id.toNat, by omega, by omega⟩
          rw [hid] at hd1
          have HE : Hid (o.kids[m]? = some e ∧ e.id = id) := ⟨he, hid⟩
          clear he hd hd0 hid
          rw [← hb2.cell (by simp; omega)] at hd1
          have g0 := hq2.out.cell (i := id) hid0
          have z0 := hq2.out.frozen id
          have hcn : cnt (flat (os.take j) ++ tagged j (o.kids.take m)) id ≤ 40000000 := by
            have h1 := cnt_le (flat (os.take j) ++ tagged j (o.kids.take m)) id
            have h2 := flatFrom_len (M := 1048576) 0 (os.take j) (fun o' ho' => hS o' (List.mem_of_mem_take ho'))
            have h3 : (os.take j).length * 1048576 ≤ 32 * 1048576 := Nat.mul_le_mul_right _ (by simp; omega)
            have h4 : (tagged j (o.kids.take m)).length ≤ 1048576 := by simp [tagged]; have := HKL.out; omega
            rw [List.length_append] at h1
            unfold flat at h1 ⊢
            omega
          have hid1 : (0 : Int) ≤ (id : Int) := by omega
          have hid2 : (id : Int) < 32 := by omega
          have hlt' : (j : Int) < (n : Int) := by omega
          have hlt2' : (m : Int) < (kn : Int) := by omega
          generalize hC : cnt (flat (os.take j) ++ tagged j (o.kids.take m)) id = C at g0 hcn
          have HC : Hid (cnt (flat (os.take j) ++ tagged j (o.kids.take m)) id = C) := hC
          clear hC
          go_wp2_with fail
          go_region
          go_wp2_with fail
          go_roundg (kn - (m + 1))
          case measure => have := hk2.out; omega
          case rel =>
            refine ⟨m + 1, by omega, rfl, by go_num, ?_, ?_, ?_⟩
            · have h1 := (hq2.out.set id (.int .i64 (C + 1))).drew
              refine h1.congr fun i hi => ?_
              rw [cnt_snoc HE.out.1]
              by_cases hii : i = id
              · subst hii
                rw [if_pos rfl, if_pos HE.out.2, HC.out]
                simp
              · rw [if_neg hii, if_neg (by have := HE.out.2; show ¬ e.id = _; omega), Nat.add_zero]
            · show World.cell? _ _ = _
              rw [World.cell?_of_block (w := wr) (Below.heap_setCell wr _ _ w.heap.size (by simp))]
              exact hx
            · exact (hb2.setCell (by simp) _).drew
        · go_wp2_with fail
          go_roundg (n - (j + 1))
          case measure => have := hk.out; omega
          case rel =>
            refine ⟨j + 1, by omega, rfl, by go_num, ?_, hx, hb2⟩
            have h1 := hq2.out
            rw [List.take_of_length_le (l := o.kids) (i := m) (by have := HKL.out; omega)] at h1
            rw [flat_take HO.out]
            exact h1
    · go_wp2_with fail
      go_ret
      have h1 := hq.out
      rw [List.take_of_length_le (by have := H.len; omega)] at h1
      exact ⟨⟨w.heap.size + 1, rfl, by omega, h1⟩, hb⟩
end Go.Proofs.Ytjenldenggaljaa
