/- Draws over a tree: a number that was nobody's. -/
import Derived.Test.YtjenldenggaljaaDirs
namespace Go.Proofs.Ytjenldenggaljaa
open Go.RowKit

set_option maxHeartbeats 1000000 in
set_option maxRecDepth 20000 in
theorem id_any (rb p : Nat) (a : Option Addr) (n c : Nat) (os : List LObj) (L U : Nat) (who : Int) (w : World) (hp : p ≤ 999990) (hn : n ≤ 32) (hn1 : 1 ≤ n) (hU : U ≤ w.heap.size) (H : ObjsAt w L U a n os) (R : RdAt w rb p) :
    Calls Try.prog 149 #[.pointer (some ⟨rb, 0, none⟩), .agg #[.slice a n c], .int .i64 who] w fun e w' => NumEnd (fun z => 1 ≤ z ∧ z < 32) e ∧ RdTo w' rb (p + 1) ∧ But rb w w' := by
  have hrl := R.lt
  have hA : Below w.heap.size w (w.alloc (Obj.cells #[.slice a n c] 25)) := (Below.refl _ _).alloc (Nat.le_refl _) _
  go_enter Try.func149, Try.ntmps149
  go_wp2_with fail
  go_loopg [7] (n - 1) (fun k i wr => ∃ j : Nat, 1 ≤ j ∧ j ≤ n ∧ Hid (k = n - j) ∧ i = .int .i64 j ∧ wr = w.alloc (Obj.cells #[.slice a n c] 25))
  case atStart => exact ⟨1, by omega, by omega, rfl, rfl, rfl⟩
  case round =>
    obtain ⟨j, hj1, hj, hk, rfl, rfl⟩ := hrel
    by_cases hlt : j < n
    · obtain ⟨b, off, ha, hL, hbU, hc⟩ := H.at_ (by omega)
      subst ha
      obtain ⟨o, ka, kn, kc, he, hts, hc0, hc1, hc2, hc3, hks⟩ := hc j hlt
      rw [← hA.cell (by simp; omega)] at hc0 hc1
      clear he hc hc2 hc3 hks
      by_cases hw : (j : Int) % 4 = who
      · have t0 : ((j : Int) % 4 == who) = true := by simpa using hw
        clear hw
        by_cases hw1 : o.kind = 0
        · have t1 : (o.kind == 0) = true := by simpa using hw1
          clear hw1
          by_cases hw2 : o.ver = 0
          · have t2 : (o.ver == 0) = true := by simpa using hw2
            clear hw2
            go_wp2_with fail
            go_ret
            exact ⟨⟨j, rfl, by omega, by omega⟩, ⟨p, by omega, R.below hA hrl⟩, But.of_below hrl hA⟩
          · have t2 : (o.ver == 0) = false := by simpa using hw2
            clear hw2
            go_wp2_with fail
            go_roundg (n - (j + 1))
            case measure => have := hk.out; omega
            case rel => exact ⟨j + 1, by omega, by omega, rfl, by go_num, rfl⟩
        · have t1 : (o.kind == 0) = false := by simpa using hw1
          clear hw1
          go_wp2_with fail
          go_roundg (n - (j + 1))
          case measure => have := hk.out; omega
          case rel => exact ⟨j + 1, by omega, by omega, rfl, by go_num, rfl⟩
      · have t0 : ((j : Int) % 4 == who) = false := by simpa using hw
        clear hw
        go_wp2_with fail
        go_roundg (n - (j + 1))
        case measure => have := hk.out; omega
        case rel => exact ⟨j + 1, by omega, by omega, rfl, by go_num, rfl⟩
    · go_wp2_with fail
      refine (pick_rd rb p 31 _ (by omega) (by omega) (by omega) (R.below hA hrl)).mono ?_
      rintro e w2 ⟨⟨x, rfl, hx⟩, R2, hd2⟩
      have hB : But rb w w2 := (But.of_below hrl hA).trans hd2.but
      go_wp2_with fail
      go_ret
      exact ⟨⟨1 + (x : Int), rfl, by omega, by omega⟩, ⟨_, by omega, R2⟩, hB⟩
end Go.Proofs.Ytjenldenggaljaa
