import Derived.Test.YtkllejaamnojpaaSlimS5
/- Lists that are made shorter: the program: what is deleted. -/
namespace Go.Proofs.Ytkllejaamnojpaa
open Go.RowKit

set_option maxHeartbeats 1000000 in
theorem delete35 (a : Option Addr) (n c : Nat) (ops : List LOp) (L U : Nat) (p1 : Addr) (goes : Nat → Bool) (w : World) (hn : n ≤ 1000) (hU : U ≤ w.heap.size) (H : OpsAt w L U a n ops)
    (HG : ∀ j, j < n → ∀ W, Below w.heap.size w W → Calls Try.prog 66 #[.int .i64 (j : Nat), .pointer (some p1)] W fun e w' => e = .returned (.bool (goes j)) ∧ Below W.heap.size W w') :
    Calls Try.prog 65 #[.slice a n c, .func (.func 66) #[] #[.pointer (some p1)]] w (SlimEnd w (keepTo (fun i => !goes i) ops n)) := by
  go_enter Try.func65, Try.ntmps65
  go_wp2_with fail
  go_loopg [5, 10] n (fun g v k wr => ∃ j : Nat, j ≤ n ∧ Hid (g = n - j) ∧ k = .int .i64 j ∧ Hid (OwnOps wr w.heap.size v (keepTo (fun i => !goes i) ops j)) ∧ Below w.heap.size w wr)
  case atStart => exact ⟨0, Nat.zero_le _, rfl, rfl, World.ownsRow_nil _ _ _ _, Below.refl _ _⟩
  case round =>
    obtain ⟨j, hj, hk, rfl, hown, hb⟩ := hrel
    have hsz := hb.size
    by_cases hlt : j < n
    · obtain ⟨b, off, ha, hL, hbU, hc⟩ := H.at_ (by omega)
      subst ha
      obtain ⟨x, he, hsx, hat⟩ := hc j hlt
      obtain ⟨d0, d1, d2, d3, d4, d5, d6⟩ := hat.of_block (hb.block b (by omega))
      have hlt' : (j : Int) < (n : Int) := by omega
      have HE : Hid (ops[j]? = some x) := he
      have hle := keepTo_len (fun i => !goes i) ops j
      clear he hc hat H
      go_wp2_with fail
      refine (HG j hlt _ (hb.alloc hb.size _)).mono ?_
      rintro e wc ⟨rfl, hb1⟩
      have hbA : Below wr.heap.size wr wc := ((Below.refl _ _).alloc (Nat.le_refl _) _).trans (hb1.mono (by simp))
      have hbc : Below w.heap.size w wc := hb.trans (hbA.mono hb.size)
      have hsc := hbc.size
      have HO : Hid (OwnOps wc w.heap.size _ (keepTo (fun i => !goes i) ops j)) := hown.out.next hbA
      have HX : OpAt wc wr.heap.size 0 x := OpAt.of_block (w := wr.alloc (.cells x.val 30)) ⟨by simp [go_sem, LOp.val], by simp [go_sem, LOp.val], by simp [go_sem, LOp.val], by simp [go_sem, LOp.val], by simp [go_sem, LOp.val], by simp [go_sem, LOp.val], by simp [go_sem, LOp.val]⟩ (hb1.block _ (by simp))
      obtain ⟨e0, e1, e2, e3, e4, e5, e6⟩ := HX
      rw [Nat.zero_add] at e1 e2 e3 e4 e5 e6
      clear d0 d1 d2 d3 d4 d5 d6 hown HG
      rcases hg : goes j with _ | _
      · have HK : Hid (keepTo (fun i => !goes i) ops (j + 1) = keepTo (fun i => !goes i) ops j ++ [x]) := keepTo_yes HE.out (by simp [hg])
        clear hg
        go_wp2_with (first
          | (at_builtin; refine wpList_app_ops _ rfl (.tmp 19) (.tmp 21) rfl w.heap.size _ (keepTo (fun i => !goes i) ops j) [x] (HO.out.alloc _) ⟨wc.heap.size, 0, none⟩ 1 1 rfl rfl rfl ?c1 ?c2 ?c3 ?_)
          | go_in)
        case c1 => intro i u hi; exact seven_cells hi (by simp)
        case c2 => omega
        case c3 => simp; omega
        intro v' w6 hE
        go_wp2_with fail
        go_roundg (n - (j + 1))
        case measure => have := hk.out; omega
        case rel => exact ⟨j + 1, by omega, rfl, by go_num, by show OwnOps _ _ _ _; rw [HK.out]; exact hE.own, hE.below HO.out hbc hsc⟩
      · have HK : Hid (keepTo (fun i => !goes i) ops (j + 1) = keepTo (fun i => !goes i) ops j) := keepTo_no (by simp [hg])
        clear hg
        go_wp2_with fail
        go_roundg (n - (j + 1))
        case measure => have := hk.out; omega
        case rel => exact ⟨j + 1, by omega, rfl, by go_num, by show OwnOps _ _ _ _; rw [HK.out]; exact HO.out, hbc⟩
    · obtain rfl : j = n := by omega
      have hown' := hown.out
      go_wp2_with fail
      go_ret
      exact ⟨⟨_, rfl, hown'⟩, hb⟩

set_option maxHeartbeats 1000000 in
theorem delete61 (a : Option Addr) (n c : Nat) (ops : List LOp) (L U : Nat) (p1 p2 p3 : Addr) (goes : Nat → Bool) (w : World) (hn : n ≤ 1000) (hU : U ≤ w.heap.size) (H : OpsAt w L U a n ops)
    (HG : ∀ j, j < n → ∀ W, Below w.heap.size w W → Calls Try.prog 117 #[.int .i64 (j : Nat), .pointer (some p1), .pointer (some p2), .pointer (some p3)] W fun e w' => e = .returned (.bool (goes j)) ∧ Below W.heap.size W w') :
    Calls Try.prog 65 #[.slice a n c, .func (.func 117) #[] #[.pointer (some p1), .pointer (some p2), .pointer (some p3)]] w (SlimEnd w (keepTo (fun i => !goes i) ops n)) := by
  go_enter Try.func65, Try.ntmps65
  go_wp2_with fail
  go_loopg [5, 10] n (fun g v k wr => ∃ j : Nat, j ≤ n ∧ Hid (g = n - j) ∧ k = .int .i64 j ∧ Hid (OwnOps wr w.heap.size v (keepTo (fun i => !goes i) ops j)) ∧ Below w.heap.size w wr)
  case atStart => exact ⟨0, Nat.zero_le _, rfl, rfl, World.ownsRow_nil _ _ _ _, Below.refl _ _⟩
  case round =>
    obtain ⟨j, hj, hk, rfl, hown, hb⟩ := hrel
    have hsz := hb.size
    by_cases hlt : j < n
    · obtain ⟨b, off, ha, hL, hbU, hc⟩ := H.at_ (by omega)
      subst ha
      obtain ⟨x, he, hsx, hat⟩ := hc j hlt
      obtain ⟨d0, d1, d2, d3, d4, d5, d6⟩ := hat.of_block (hb.block b (by omega))
      have hlt' : (j : Int) < (n : Int) := by omega
      have HE : Hid (ops[j]? = some x) := he
      have hle := keepTo_len (fun i => !goes i) ops j
      clear he hc hat H
      go_wp2_with fail
      refine (HG j hlt _ (hb.alloc hb.size _)).mono ?_
      rintro e wc ⟨rfl, hb1⟩
      have hbA : Below wr.heap.size wr wc := ((Below.refl _ _).alloc (Nat.le_refl _) _).trans (hb1.mono (by simp))
      have hbc : Below w.heap.size w wc := hb.trans (hbA.mono hb.size)
      have hsc := hbc.size
      have HO : Hid (OwnOps wc w.heap.size _ (keepTo (fun i => !goes i) ops j)) := hown.out.next hbA
      have HX : OpAt wc wr.heap.size 0 x := OpAt.of_block (w := wr.alloc (.cells x.val 30)) ⟨by simp [go_sem, LOp.val], by simp [go_sem, LOp.val], by simp [go_sem, LOp.val], by simp [go_sem, LOp.val], by simp [go_sem, LOp.val], by simp [go_sem, LOp.val], by simp [go_sem, LOp.val]⟩ (hb1.block _ (by simp))
      obtain ⟨e0, e1, e2, e3, e4, e5, e6⟩ := HX
      rw [Nat.zero_add] at e1 e2 e3 e4 e5 e6
      clear d0 d1 d2 d3 d4 d5 d6 hown HG
      rcases hg : goes j with _ | _
      · have HK : Hid (keepTo (fun i => !goes i) ops (j + 1) = keepTo (fun i => !goes i) ops j ++ [x]) := keepTo_yes HE.out (by simp [hg])
        clear hg
        go_wp2_with (first
          | (at_builtin; refine wpList_app_ops _ rfl (.tmp 19) (.tmp 21) rfl w.heap.size _ (keepTo (fun i => !goes i) ops j) [x] (HO.out.alloc _) ⟨wc.heap.size, 0, none⟩ 1 1 rfl rfl rfl ?c1 ?c2 ?c3 ?_)
          | go_in)
        case c1 => intro i u hi; exact seven_cells hi (by simp)
        case c2 => omega
        case c3 => simp; omega
        intro v' w6 hE
        go_wp2_with fail
        go_roundg (n - (j + 1))
        case measure => have := hk.out; omega
        case rel => exact ⟨j + 1, by omega, rfl, by go_num, by show OwnOps _ _ _ _; rw [HK.out]; exact hE.own, hE.below HO.out hbc hsc⟩
      · have HK : Hid (keepTo (fun i => !goes i) ops (j + 1) = keepTo (fun i => !goes i) ops j) := keepTo_no (by simp [hg])
        clear hg
        go_wp2_with fail
        go_roundg (n - (j + 1))
        case measure => have := hk.out; omega
        case rel => exact ⟨j + 1, by omega, rfl, by go_num, by show OwnOps _ _ _ _; rw [HK.out]; exact HO.out, hbc⟩
    · obtain rfl : j = n := by omega
      have hown' := hown.out
      go_wp2_with fail
      go_ret
      exact ⟨⟨_, rfl, hown'⟩, hb⟩

set_option maxHeartbeats 1000000 in
theorem delete88 (a : Option Addr) (n c : Nat) (ops : List LOp) (L U : Nat) (p1 p2 : Addr) (goes : Nat → Bool) (w : World) (hn : n ≤ 1000) (hU : U ≤ w.heap.size) (H : OpsAt w L U a n ops)
    (HG : ∀ j, j < n → ∀ W, Below w.heap.size w W → Calls Try.prog 157 #[.int .i64 (j : Nat), .pointer (some p1), .pointer (some p2)] W fun e w' => e = .returned (.bool (goes j)) ∧ Below W.heap.size W w') :
    Calls Try.prog 65 #[.slice a n c, .func (.func 157) #[] #[.pointer (some p1), .pointer (some p2)]] w (SlimEnd w (keepTo (fun i => !goes i) ops n)) := by
  go_enter Try.func65, Try.ntmps65
  go_wp2_with fail
  go_loopg [5, 10] n (fun g v k wr => ∃ j : Nat, j ≤ n ∧ Hid (g = n - j) ∧ k = .int .i64 j ∧ Hid (OwnOps wr w.heap.size v (keepTo (fun i => !goes i) ops j)) ∧ Below w.heap.size w wr)
  case atStart => exact ⟨0, Nat.zero_le _, rfl, rfl, World.ownsRow_nil _ _ _ _, Below.refl _ _⟩
  case round =>
    obtain ⟨j, hj, hk, rfl, hown, hb⟩ := hrel
    have hsz := hb.size
    by_cases hlt : j < n
    · obtain ⟨b, off, ha, hL, hbU, hc⟩ := H.at_ (by omega)
      subst ha
      obtain ⟨x, he, hsx, hat⟩ := hc j hlt
      obtain ⟨d0, d1, d2, d3, d4, d5, d6⟩ := hat.of_block (hb.block b (by omega))
      have hlt' : (j : Int) < (n : Int) := by omega
      have HE : Hid (ops[j]? = some x) := he
      have hle := keepTo_len (fun i => !goes i) ops j
      clear he hc hat H
      go_wp2_with fail
      refine (HG j hlt _ (hb.alloc hb.size _)).mono ?_
      rintro e wc ⟨rfl, hb1⟩
      have hbA : Below wr.heap.size wr wc := ((Below.refl _ _).alloc (Nat.le_refl _) _).trans (hb1.mono (by simp))
      have hbc : Below w.heap.size w wc := hb.trans (hbA.mono hb.size)
      have hsc := hbc.size
      have HO : Hid (OwnOps wc w.heap.size _ (keepTo (fun i => !goes i) ops j)) := hown.out.next hbA
      have HX : OpAt wc wr.heap.size 0 x := OpAt.of_block (w := wr.alloc (.cells x.val 30)) ⟨by simp [go_sem, LOp.val], by simp [go_sem, LOp.val], by simp [go_sem, LOp.val], by simp [go_sem, LOp.val], by simp [go_sem, LOp.val], by simp [go_sem, LOp.val], by simp [go_sem, LOp.val]⟩ (hb1.block _ (by simp))
      obtain ⟨e0, e1, e2, e3, e4, e5, e6⟩ := HX
      rw [Nat.zero_add] at e1 e2 e3 e4 e5 e6
      clear d0 d1 d2 d3 d4 d5 d6 hown HG
      rcases hg : goes j with _ | _
      · have HK : Hid (keepTo (fun i => !goes i) ops (j + 1) = keepTo (fun i => !goes i) ops j ++ [x]) := keepTo_yes HE.out (by simp [hg])
        clear hg
        go_wp2_with (first
          | (at_builtin; refine wpList_app_ops _ rfl (.tmp 19) (.tmp 21) rfl w.heap.size _ (keepTo (fun i => !goes i) ops j) [x] (HO.out.alloc _) ⟨wc.heap.size, 0, none⟩ 1 1 rfl rfl rfl ?c1 ?c2 ?c3 ?_)
          | go_in)
        case c1 => intro i u hi; exact seven_cells hi (by simp)
        case c2 => omega
        case c3 => simp; omega
        intro v' w6 hE
        go_wp2_with fail
        go_roundg (n - (j + 1))
        case measure => have := hk.out; omega
        case rel => exact ⟨j + 1, by omega, rfl, by go_num, by show OwnOps _ _ _ _; rw [HK.out]; exact hE.own, hE.below HO.out hbc hsc⟩
      · have HK : Hid (keepTo (fun i => !goes i) ops (j + 1) = keepTo (fun i => !goes i) ops j) := keepTo_no (by simp [hg])
        clear hg
        go_wp2_with fail
        go_roundg (n - (j + 1))
        case measure => have := hk.out; omega
        case rel => exact ⟨j + 1, by omega, rfl, by go_num, by show OwnOps _ _ _ _; rw [HK.out]; exact HO.out, hbc⟩
    · obtain rfl : j = n := by omega
      have hown' := hown.out
      go_wp2_with fail
      go_ret
      exact ⟨⟨_, rfl, hown'⟩, hb⟩

end Go.Proofs.Ytkllejaamnojpaa
