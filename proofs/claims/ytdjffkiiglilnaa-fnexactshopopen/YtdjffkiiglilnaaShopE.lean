/- Servers with nothing: opened, marked and held. -/
import Derived.Test.YtdjffkiiglilnaaShopA
import Derived.Test.YtdjffkiiglilnaaMark
namespace Go.Proofs.Ytdjffkiiglilnaa
open Go.RowKit

def ShopOpenEnd (w : World) (e : Ending) (w' : World) : Prop := ∃ b, e = .returned (.agg #[.slice (some ⟨b, 0, none⟩) 32 32, .slice none 0 0]) ∧ w.heap.size ≤ b ∧ w'.rowIs b 38 128 openF

theorem specShopOpen (w : World) : Calls Try.prog 32 #[] w fun e w' => ShopOpenEnd w e w' ∧ Below w.heap.size w w' := by
  go_enter Try.func32, Try.ntmps32
  go_wp2_with fail
  refine (specOpen _).mono ?_
  rintro x w1 ⟨⟨b1, rfl, hlo1, hr1⟩, hb1⟩
  have hlo : w.heap.size + 1 ≤ b1 := by simpa using hlo1
  have HR1 : Hid (w1.rowIs b1 38 128 openF) := hr1
  have c0 : w1.cell? ⟨w.heap.size, 0, none⟩ = some (.slice none 0 0) := by rw [hb1.cell (by simp)]; simp [go_sem]
  have c1 : w1.cell? ⟨w.heap.size, 1, none⟩ = some (.slice none 0 0) := by rw [hb1.cell (by simp)]; simp [go_sem]
  have z0 : ∀ o, w1.frozen? ⟨w.heap.size, o, none⟩ = false := fun o => by rw [hb1.frozen (by simp)]; simp [go_sem]
  have hB : Below w.heap.size w w1 := ((Below.refl _ _).alloc (Nat.le_refl _) _).trans (hb1.mono (by simp))
  clear hr1 hb1 hlo1
  go_wp2_with fail
  refine bodyPost_ret (v := .agg #[.slice (some ⟨b1, 0, none⟩) 32 32, .slice none 0 0]) (by simp [results, Try.results32, go_sem, c0, c1]) rfl ⟨⟨b1, rfl, by omega, ?_⟩, ?_⟩
  · refine HR1.out.of_block ?_
    iterate 2 refine (Below.heap_setCell _ _ _ b1 (by simp <;> omega)).trans ?_
    rfl
  · repeat (first | exact hB | refine Below.setCell ?_ (by simp <;> omega) _)
theorem implShopOpen (w : World) : Calls Try.prog 33 #[] w fun e w' => ShopOpenEnd w e w' ∧ Below w.heap.size w w' := by
  go_enter Try.func33, Try.ntmps33
  go_wp2_with fail
  refine (implOpen _).mono ?_
  rintro x w1 ⟨⟨b1, rfl, hlo1, hr1⟩, hb1⟩
  have hlo : w.heap.size + 1 ≤ b1 := by simpa using hlo1
  have HR1 : Hid (w1.rowIs b1 38 128 openF) := hr1
  have c0 : w1.cell? ⟨w.heap.size, 0, none⟩ = some (.slice none 0 0) := by rw [hb1.cell (by simp)]; simp [go_sem]
  have c1 : w1.cell? ⟨w.heap.size, 1, none⟩ = some (.slice none 0 0) := by rw [hb1.cell (by simp)]; simp [go_sem]
  have z0 : ∀ o, w1.frozen? ⟨w.heap.size, o, none⟩ = false := fun o => by rw [hb1.frozen (by simp)]; simp [go_sem]
  have hB : Below w.heap.size w w1 := ((Below.refl _ _).alloc (Nat.le_refl _) _).trans (hb1.mono (by simp))
  clear hr1 hb1 hlo1
  go_wp2_with fail
  refine bodyPost_ret (v := .agg #[.slice (some ⟨b1, 0, none⟩) 32 32, .slice none 0 0]) (by simp [results, Try.results33, go_sem, c0, c1]) rfl ⟨⟨b1, rfl, by omega, ?_⟩, ?_⟩
  · refine HR1.out.of_block ?_
    iterate 2 refine (Below.heap_setCell _ _ _ b1 (by simp <;> omega)).trans ?_
    rfl
  · repeat (first | exact hB | refine Below.setCell ?_ (by simp <;> omega) _)
theorem markDoneS_none (k : Int) (w : World) : Calls Try.prog 78 #[.slice none 0 0, .int .i64 k] w fun e w' => e = .returned (.int .i64 k) ∧ w' = w := by
  go_enter Try.func78, Try.ntmps78
  go_wp2_with fail
  go_loopg [1, 5] 0 (fun _ x i wr => x = .int .i64 k ∧ i = .int .i64 0 ∧ w = wr)
  case atStart => exact ⟨rfl, rfl, rfl⟩
  case round =>
    obtain ⟨rfl, rfl, rfl⟩ := hrel
    go_wp2_with fail
    go_ret
    exact ⟨rfl, rfl⟩
theorem heldDoneS_none (k : Int) (w : World) : Calls Try.prog 80 #[.slice none 0 0, .int .i64 k] w fun e w' => e = .returned (.int .i64 k) ∧ w' = w := by
  go_enter Try.func80, Try.ntmps80
  go_wp2_with fail
  go_loopg [1, 5] 0 (fun _ x i wr => x = .int .i64 k ∧ i = .int .i64 0 ∧ w = wr)
  case atStart => exact ⟨rfl, rfl, rfl⟩
  case round =>
    obtain ⟨rfl, rfl, rfl⟩ := hrel
    go_wp2_with fail
    go_ret
    exact ⟨rfl, rfl⟩
theorem markShop_open (b c : Nat) (f : Nat → Value) (w : World) (hrow : w.rowIs b 38 128 f) (hbare : Bare f) :
    Calls Try.prog 35 #[.agg #[.slice (some ⟨b, 0, none⟩) 32 c, .slice none 0 0], .int .i64 1] w fun e w' => e = .returned (.int .i64 97) ∧ (∃ f', w'.rowIs b 38 128 f' ∧ Bare f' ∧ Marked f' 32) ∧ But b w w' := by
  have hlt := hrow.lt
  have HR : Hid (w.rowIs b 38 128 f) := hrow
  clear hrow
  go_enter Try.func35, Try.ntmps35
  go_wp2_with fail
  refine (markTree_any b c f _ (HR.out.alloc _) hbare).mono ?_
  rintro x w1 ⟨rfl, hm, hbut⟩
  have c1 : w1.cell? ⟨w.heap.size, 1, none⟩ = some (.slice none 0 0) := by rw [hbut.cell (by simp; omega) (by simp)]; simp [go_sem]
  have HM : Hid (∃ f', w1.rowIs b 38 128 f' ∧ Bare f' ∧ Marked f' 32) := hm
  have hb2 : But b w w1 := ⟨((Below.refl _ _).alloc (by omega) _).trans hbut.below, fun k h1 h2 => (hbut.block k h1 (by simp; omega)).trans (((Below.refl w.heap.size w).alloc (Nat.le_refl _) _).block k h2)⟩
  clear hm hbut
  go_wp2_with fail
  refine (markDoneS_none _ _).mono ?_
  rintro x w2 ⟨rfl, rfl⟩
  go_wp2_with fail
  go_ret
  exact ⟨rfl, HM.out, hb2⟩
theorem heldShop_open (b c : Nat) (f : Nat → Value) (w : World) (hrow : w.rowIs b 38 128 f) (hbare : Bare f) (hm : Marked f 32) :
    Calls Try.prog 36 #[.agg #[.slice (some ⟨b, 0, none⟩) 32 c, .slice none 0 0], .int .i64 1] w fun e w' => e = .returned (.int .i64 97) ∧ Below w.heap.size w w' := by
  have HR : Hid (w.rowIs b 38 128 f) := hrow
  have HM : Hid (Bare f ∧ Marked f 32) := ⟨hbare, hm⟩
  clear hrow hbare hm
  go_enter Try.func36, Try.ntmps36
  go_wp2_with fail
  refine (heldTree_any b c f _ (HR.out.alloc _) HM.out.1 HM.out.2).mono ?_
  rintro x w1 ⟨rfl, hb1⟩
  have c1 : w1.cell? ⟨w.heap.size, 1, none⟩ = some (.slice none 0 0) := by rw [hb1.cell (by simp)]; simp [go_sem]
  have hB : Below w.heap.size w w1 := ((Below.refl _ _).alloc (Nat.le_refl _) _).trans (hb1.mono (by simp))
  clear hb1
  go_wp2_with fail
  refine (heldDoneS_none _ _).mono ?_
  rintro x w2 ⟨rfl, rfl⟩
  go_wp2_with fail
  go_ret
  exact ⟨rfl, hB⟩
end Go.Proofs.Ytdjffkiiglilnaa
