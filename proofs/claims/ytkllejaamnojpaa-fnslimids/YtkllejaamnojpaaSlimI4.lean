import Derived.Test.YtkllejaamnojpaaSlimI3
import Derived.Deep.RegionHeld
/- Lists that are made shorter: the program: what goes again is taken out. -/
namespace Go.Proofs.Ytkllejaamnojpaa
open Go.RowKit

def goesPair (ops : List LOp) (id : Int) (i k j : Nat) : Bool := (decide (i ≤ j) && decide (j ≤ k)) && (idAt ops j == id)
set_option maxHeartbeats 8000000 in
theorem clos61 (a : Option Addr) (n c : Nat) (ops : List LOp) (L U i k j p1 p2 p3 : Nat) (id : Int) (w : World) (hj : j < n) (hU : U ≤ w.heap.size) (hp1 : p1 < w.heap.size) (hp2 : p2 < w.heap.size) (hp3 : p3 < w.heap.size)
    (h10 : w.cell? ⟨p1, 0, none⟩ = some (.int .i64 i)) (h11 : w.cell? ⟨p1, 1, none⟩ = some (.int .i64 k)) (h2 : w.cell? ⟨p2, 0, none⟩ = some (.slice a n c)) (h3 : w.cell? ⟨p3, 0, none⟩ = some (.int .i64 id)) (H : OpsAt w L U a n ops) :
    Calls Try.prog 117 #[.int .i64 j, .pointer (some ⟨p1, 0, none⟩), .pointer (some ⟨p2, 0, none⟩), .pointer (some ⟨p3, 0, none⟩)] w fun e w' => e = .returned (.bool (goesPair ops id i k j)) ∧ Below w.heap.size w w' := by
  have hbd := H.bd
  unfold maxLen at hbd
  obtain ⟨b, off, ha, hL, hbU, hc⟩ := H.at_ (by omega)
  subst ha
  obtain ⟨o, he, _, hat⟩ := hc j hj
  have d5 := hat.c5
  have HG : Hid (goesPair ops id i k j = ((decide (i ≤ j) && decide (j ≤ k)) && (o.id == id))) := by show _ = _; unfold goesPair; rw [idAt_of he]
  have hjI : (j : Int) < (n : Int) := by omega
  have hB : Below w.heap.size w (w.alloc (.cells #[.int .i64 i, .int .i64 k] 128)) := (Below.refl _ _).alloc (Nat.le_refl _) _
  clear hc hat he H
  rcases hh : (decide (i ≤ j) && decide (j ≤ k)) with _ | _
  · have HR : Hid (goesPair ops id i k j = false) := by show _ = _; rw [HG.out, hh]; rfl
    go_enter Try.func117, Try.ntmps117
    go_upto_region 1 with fail
    refine wp_region_held_drew (S := (fun w' => w'.cell? ⟨p1, 0, none⟩ = some (.int .i64 i) ∧ w'.cell? ⟨p1, 1, none⟩ = some (.int .i64 k) ∧ w'.cell? ⟨p2, 0, none⟩ = some (.slice (some ⟨b, off, none⟩) n c) ∧ w'.cell? ⟨p3, 0, none⟩ = some (.int .i64 id) ∧ w'.cell? ⟨b, off + j * 7 + 5, none⟩ = some (.int .i64 o.id))) (by kernel_rfl) ?_ (fun hHeld => ?_)
    · exact ⟨h10, h11, h2, h3, d5⟩
    refine wpAnyH_take (i := 0) (oi := _) (v := ?v0) rfl (by kernel_rfl) (by kernel_rfl) (by kernel_rfl) (fun _ _ _ h => h) (Or.inl ⟨by rfl, ?y0⟩) (by assumption) ?r0
    case y0 => (intro w' hSw; (try dsimp only at hSw); go_simp; try with_reducible rfl)
    try simp only [Act.put]
    refine wpAnyH_take (i := 1) (oi := _) (v := ?v1) rfl (by kernel_rfl) (by kernel_rfl) (by kernel_rfl) (fun _ _ _ h => h) (Or.inl ⟨by rfl, ?y1⟩) (by assumption) ?r1
    case y1 => (intro w' hSw; (try dsimp only at hSw); go_simp; try with_reducible rfl)
    try simp only [Act.put]
    refine wpAnyH_ready (rs := [2]) (by kernel_rfl) (by simp) ?_
    refine AllReadyH.cons (o := _) rfl (fun K hK => ?_) AllReadyH.nil
    go_simp
    refine (has_any i k j _).mono ?_
    rintro e w1 ⟨rfl, hw1⟩
    have HB1 : Below w.heap.size w w1 := by rw [hw1]; exact (Below.refl _ _).drew.alloc (by simp) _
    rw [hh]
    clear hw1
    go_wp2_with fail
    refine hK.out _ _ ?_ (fun hHeld => ?_)
    · exact ⟨by rw [HB1.cell (by simpa using hp1)]; exact h10, by rw [HB1.cell (by simpa using hp1)]; exact h11, by rw [HB1.cell (by simpa using hp2)]; exact h2, by rw [HB1.cell (by simpa using hp3)]; exact h3, by rw [HB1.cell (by simp; omega)]; exact d5⟩
    clear hK K
    try simp only [Act.put]
    refine wpAnyH_take (i := 3) (oi := _) (v := ?v3) rfl (by kernel_rfl) (by kernel_rfl) (by kernel_rfl) (fun _ _ _ h => h) (Or.inl ⟨by rfl, ?y3⟩) (by assumption) ?r3
    case y3 => (intro w' hSw; (try dsimp only at hSw); go_simp; try with_reducible rfl)
    try simp only [Act.put]
    refine wpAnyH_take (i := 4) (oi := _) (v := undef) rfl (by kernel_rfl) (by kernel_rfl) (by kernel_rfl) (fun _ _ _ h => h) (Or.inr ⟨by rfl, rfl⟩) (by assumption) ?r4
    try simp only [Act.put]
    refine wpAnyH_take (i := 5) (oi := _) (v := undef) rfl (by kernel_rfl) (by kernel_rfl) (by kernel_rfl) (fun _ _ _ h => h) (Or.inr ⟨by rfl, rfl⟩) (by assumption) ?r5
    try simp only [Act.put]
    refine wpAnyH_take (i := 6) (oi := _) (v := undef) rfl (by kernel_rfl) (by kernel_rfl) (by kernel_rfl) (fun _ _ _ h => h) (Or.inr ⟨by rfl, rfl⟩) (by assumption) ?r6
    try simp only [Act.put]
    refine wpAnyH_take (i := 7) (oi := _) (v := undef) rfl (by kernel_rfl) (by kernel_rfl) (by kernel_rfl) (fun _ _ _ h => h) (Or.inr ⟨by rfl, rfl⟩) (by assumption) ?r7
    try simp only [Act.put]
    refine wpAnyH_take (i := 8) (oi := _) (v := undef) rfl (by kernel_rfl) (by kernel_rfl) (by kernel_rfl) (fun _ _ _ h => h) (Or.inr ⟨by rfl, rfl⟩) (by assumption) ?r8
    try simp only [Act.put]
    refine wpAnyH_take (i := 9) (oi := _) (v := undef) rfl (by kernel_rfl) (by kernel_rfl) (by kernel_rfl) (fun _ _ _ h => h) (Or.inr ⟨by rfl, rfl⟩) (by assumption) ?r9
    try simp only [Act.put]
    refine wpAnyH_take (i := 10) (oi := _) (v := undef) rfl (by kernel_rfl) (by kernel_rfl) (by kernel_rfl) (fun _ _ _ h => h) (Or.inr ⟨by rfl, rfl⟩) (by assumption) ?r10
    try simp only [Act.put]
    refine wpAnyH_ready (rs := [11]) (by kernel_rfl) (by simp) ?_
    refine AllReadyH.cons (o := _) rfl (fun K hK => ?_) AllReadyH.nil
    go_simp
    refine hK.out _ _ ?_ (fun hHeld => ?_)
    · exact hHeld
    clear hK K
    try simp only [Act.put]
    refine wpAnyH_ready (rs := [12]) (by kernel_rfl) (by simp) ?_
    refine AllReadyH.cons (o := _) rfl (fun K hK => ?_) AllReadyH.nil
    go_simp
    refine hK.out _ _ ?_ (fun hHeld => ?_)
    · exact hHeld
    clear hK K
    try simp only [Act.put]
    refine wpAnyH_done (by kernel_rfl) ?_ _
    go_wp2_with fail
    go_ret
    exact ⟨ret_bool (by rw [HR.out]), HB1⟩
  · have HR : Hid (goesPair ops id i k j = (o.id == id)) := by show _ = _; rw [HG.out, hh]; rfl
    go_enter Try.func117, Try.ntmps117
    go_upto_region 1 with fail
    refine wp_region_held_drew (S := (fun w' => w'.cell? ⟨p1, 0, none⟩ = some (.int .i64 i) ∧ w'.cell? ⟨p1, 1, none⟩ = some (.int .i64 k) ∧ w'.cell? ⟨p2, 0, none⟩ = some (.slice (some ⟨b, off, none⟩) n c) ∧ w'.cell? ⟨p3, 0, none⟩ = some (.int .i64 id) ∧ w'.cell? ⟨b, off + j * 7 + 5, none⟩ = some (.int .i64 o.id))) (by kernel_rfl) ?_ (fun hHeld => ?_)
    · exact ⟨h10, h11, h2, h3, d5⟩
    refine wpAnyH_take (i := 0) (oi := _) (v := ?vz0) rfl (by kernel_rfl) (by kernel_rfl) (by kernel_rfl) (fun _ _ _ h => h) (Or.inl ⟨by rfl, ?yz0⟩) (by assumption) ?rz0
    case yz0 => (intro w' hSw; (try dsimp only at hSw); go_simp; try with_reducible rfl)
    try simp only [Act.put]
    refine wpAnyH_take (i := 1) (oi := _) (v := ?vz1) rfl (by kernel_rfl) (by kernel_rfl) (by kernel_rfl) (fun _ _ _ h => h) (Or.inl ⟨by rfl, ?yz1⟩) (by assumption) ?rz1
    case yz1 => (intro w' hSw; (try dsimp only at hSw); go_simp; try with_reducible rfl)
    try simp only [Act.put]
    refine wpAnyH_ready (rs := [2]) (by kernel_rfl) (by simp) ?_
    refine AllReadyH.cons (o := _) rfl (fun K hK => ?_) AllReadyH.nil
    go_simp
    refine (has_any i k j _).mono ?_
    rintro e w1 ⟨rfl, hw1⟩
    have HB1 : Below w.heap.size w w1 := by rw [hw1]; exact (Below.refl _ _).drew.alloc (by simp) _
    rw [hh]
    clear hw1
    go_wp2_with fail
    refine hK.out _ _ ?_ (fun hHeld => ?_)
    · exact ⟨by rw [HB1.cell (by simpa using hp1)]; exact h10, by rw [HB1.cell (by simpa using hp1)]; exact h11, by rw [HB1.cell (by simpa using hp2)]; exact h2, by rw [HB1.cell (by simpa using hp3)]; exact h3, by rw [HB1.cell (by simp; omega)]; exact d5⟩
    clear hK K
    try simp only [Act.put]
    refine wpAnyH_take (i := 3) (oi := _) (v := ?vz3) rfl (by kernel_rfl) (by kernel_rfl) (by kernel_rfl) (fun _ _ _ h => h) (Or.inl ⟨by rfl, ?yz3⟩) (by assumption) ?rz3
    case yz3 => (intro w' hSw; (try dsimp only at hSw); go_simp; try with_reducible rfl)
    try simp only [Act.put]
    refine wpAnyH_take (i := 4) (oi := _) (v := ?vz4) rfl (by kernel_rfl) (by kernel_rfl) (by kernel_rfl) (fun _ _ _ h => h) (Or.inl ⟨by rfl, ?yz4⟩) (by assumption) ?rz4
    case yz4 => (intro w' hSw; (try dsimp only at hSw); go_simp; try with_reducible rfl)
    try simp only [Act.put]
    refine wpAnyH_take (i := 5) (oi := _) (v := ?vz5) rfl (by kernel_rfl) (by kernel_rfl) (by kernel_rfl) (fun _ _ _ h => h) (Or.inl ⟨by rfl, ?yz5⟩) (by assumption) ?rz5
    case yz5 => (intro w' hSw; (try dsimp only at hSw); go_simp; try with_reducible rfl)
    try simp only [Act.put]
    refine wpAnyH_take (i := 6) (oi := _) (v := ?vz6) rfl (by kernel_rfl) (by kernel_rfl) (by kernel_rfl) (fun _ _ _ h => h) (Or.inl ⟨by rfl, ?yz6⟩) (by assumption) ?rz6
    case yz6 => (intro w' hSw; (try dsimp only at hSw); go_simp; try with_reducible rfl)
    try simp only [Act.put]
    refine wpAnyH_take (i := 7) (oi := _) (v := ?vz7) rfl (by kernel_rfl) (by kernel_rfl) (by kernel_rfl) (fun _ _ _ h => h) (Or.inl ⟨by rfl, ?yz7⟩) (by assumption) ?rz7
    case yz7 => (intro w' hSw; (try dsimp only at hSw); go_simp; try with_reducible rfl)
    try simp only [Act.put]
    refine wpAnyH_take (i := 8) (oi := _) (v := ?vz8) rfl (by kernel_rfl) (by kernel_rfl) (by kernel_rfl) (fun _ _ _ h => h) (Or.inl ⟨by rfl, ?yz8⟩) (by assumption) ?rz8
    case yz8 => (intro w' hSw; (try dsimp only at hSw); go_simp; try with_reducible rfl)
    try simp only [Act.put]
    refine wpAnyH_take (i := 9) (oi := _) (v := ?vz9) rfl (by kernel_rfl) (by kernel_rfl) (by kernel_rfl) (fun _ _ _ h => h) (Or.inl ⟨by rfl, ?yz9⟩) (by assumption) ?rz9
    case yz9 => (intro w' hSw; (try dsimp only at hSw); go_simp; try with_reducible rfl)
    try simp only [Act.put]
    refine wpAnyH_take (i := 10) (oi := _) (v := ?vz10) rfl (by kernel_rfl) (by kernel_rfl) (by kernel_rfl) (fun _ _ _ h => h) (Or.inl ⟨by rfl, ?yz10⟩) (by assumption) ?rz10
    case yz10 => (intro w' hSw; (try dsimp only at hSw); go_simp; try with_reducible rfl)
    try simp only [Act.put]
    refine wpAnyH_ready (rs := [11]) (by kernel_rfl) (by simp) ?_
    refine AllReadyH.cons (o := _) rfl (fun K hK => ?_) AllReadyH.nil
    go_simp
    refine hK.out _ _ ?_ (fun hHeld => ?_)
    · exact hHeld
    clear hK K
    try simp only [Act.put]
    refine wpAnyH_ready (rs := [12]) (by kernel_rfl) (by simp) ?_
    refine AllReadyH.cons (o := _) rfl (fun K hK => ?_) AllReadyH.nil
    go_simp
    refine hK.out _ _ ?_ (fun hHeld => ?_)
    · exact hHeld
    clear hK K
    try simp only [Act.put]
    refine wpAnyH_done (by kernel_rfl) ?_ _
    go_wp2_with fail
    go_ret
    exact ⟨ret_bool (by rw [HR.out]), HB1⟩
theorem OwnOps.nil_ (w : World) (B : Nat) : OwnOps w B (.slice none 0 0) [] := World.ownsRow_nil _ _ _ _
theorem copy_list (a : Option Addr) (n c : Nat) (ops : List LOp) (L U : Nat) (w : World) (hn : n ≤ 1000) (H : OpsAt w L U a n ops) :
    Calls Try.prog 98 #[.slice a n c] w (SlimEnd w ops) := by
  go_enter Try.func98, Try.ntmps98
  go_wp2_with (first
    | (at_builtin; refine wpList_app_all _ rfl (.const (.slice none 0 0)) (.tmp 3) rfl w.heap.size _ [] ops (World.ownsRow_nil _ _ _ _) a n c L U H rfl rfl ?c2 ?c3 ?_)
    | go_in)
  case c2 => simp; omega
  case c3 => simp
  intro v1 w1 hE1
  have hown1 : OwnOps w1 w.heap.size v1 ops := by simpa using hE1.own
  have hb1 : Below w.heap.size w w1 := hE1.belowW (OwnOps.nil_ _ _) (Below.refl _ _) (Nat.le_refl _)
  clear hE1
  go_wp2_with fail
  go_ret
  exact ⟨⟨_, rfl, hown1⟩, hb1⟩

end Go.Proofs.Ytkllejaamnojpaa
