import Derived.Test.YtkllejaamnojpaaSlimI2
/- Lists that are made shorter: the program: what goes again. -/
namespace Go.Proofs.Ytkllejaamnojpaa
open Go.RowKit

theorem leans_cases (x : LOp) (id : Int) : ((x.kind != 5) = false ∧ (x.kind == 4) = false) ∨ ((x.kind != 5) = true ∧ (x.dir == id) = true) ∨ ((x.kind != 5) = true ∧ (x.dir == id) = false ∧ (x.kind == 4) = true ∧ (x.dir2 == id) = true) ∨ ((x.kind != 5) = true ∧ (x.dir == id) = false ∧ (x.kind == 4) = true ∧ (x.dir2 == id) = false) ∨ ((x.kind != 5) = true ∧ (x.dir == id) = false ∧ (x.kind == 4) = false) := by
  by_cases h5 : x.kind = 5
  · left; simp [h5]
  · have : (x.kind != 5) = true := by simpa using h5
    rw [this]
    cases (x.dir == id) <;> cases (x.kind == 4) <;> cases (x.dir2 == id) <;> simp
set_option maxHeartbeats 1000000 in
theorem leansOn_any (x : LOp) (id : Int) (w : World) : Calls Try.prog 178 #[.agg x.val, .int .i64 id] w fun e w' => e = .returned (.bool (leansB x id)) ∧ Below w.heap.size w w' := by
  have hB : ∀ o1 : Obj, Below w.heap.size w (w.alloc o1) := fun o1 => (Below.refl _ _).alloc (Nat.le_refl _) _
  simp only [LOp.val]
  rcases leans_cases x id with ⟨t0, t1⟩ | ⟨t0, t1⟩ | ⟨t0, t1, t2, t3⟩ | ⟨t0, t1, t2, t3⟩ | ⟨t0, t1, t2⟩
  all_goals
    go_enter Try.func178, Try.ntmps178
    go_wp2_with (first
      | (go_at_call 128; refine (inDir_any _ _).mono ?_; rintro e w1 ⟨rfl, rfl⟩; rw [t0])
      | (go_at_call 129; refine (moves_any _ _).mono ?_; rintro e w1 ⟨rfl, rfl⟩; first | rw [t1] | rw [t2]))
    go_ret
    exact ⟨ret_bool (by unfold leansB; simp only [*]; rfl), hB _⟩
def GoEnd (g : Int) (e : Ending) : Prop := e = .returned (.tuple #[.int .i64 (if 0 ≤ g then g else 0), .bool (decide (0 ≤ g))])
theorem GoEnd.no {e : Ending} (h : e = .returned (.tuple #[.int .i64 0, .bool false])) : GoEnd (-1) e := by subst h; rfl
theorem GoEnd.yes {e : Ending} {j : Nat} (h : e = .returned (.tuple #[.int .i64 j, .bool true])) : GoEnd j e := by
  subst h
  unfold GoEnd
  have : (0 : Int) ≤ (j : Int) := by omega
  simp [this]
set_option maxHeartbeats 1000000 in
theorem goesAgain_any (a : Option Addr) (n c : Nat) (ops : List LOp) (L U i : Nat) (o : LOp) (w : World) (hi : i < n) (ho : ops[i]? = some o) (hU : U ≤ w.heap.size) (H : OpsAt w L U a n ops) :
    Calls Try.prog 154 #[.slice a n c, .int .i64 i] w fun e w' => GoEnd (goesAt o.id (ops.drop (i + 1)) (i + 1)) e ∧ Below w.heap.size w w' := by
  have hbd := H.bd
  have hlen : Hid (n = ops.length) := H.len
  unfold maxLen at hbd
  obtain ⟨b, off, ha, hL, hbU, hc⟩ := H.at_ (by omega)
  subst ha
  obtain ⟨o', he, _, hat⟩ := hc i hi
  rw [ho] at he
  cases he
  have hiI : (i : Int) < (n : Int) := by omega
  have k5 := hat.c5
  obtain ⟨G, HG⟩ : ∃ G, Hid (goesAt o.id (ops.drop (i + 1)) (i + 1) = G) := ⟨_, rfl⟩
  rw [HG.out]
  clear H ho hat
  go_enter Try.func154, Try.ntmps154
  go_wp2_with fail
  go_loopg [7] (n - (i + 1)) (fun g k wr => ∃ j : Nat, j ≤ n ∧ i < j ∧ Hid (g = n - j) ∧ k = .int .i64 j ∧ Hid (goesAt o.id (ops.drop j) j = G) ∧ Below w.heap.size w wr)
  case atStart => exact ⟨i + 1, by omega, by omega, rfl, by go_num, HG.out, Below.refl _ _⟩
  case round =>
    obtain ⟨j, hj, hij, hk, rfl, hq, hb⟩ := hrel
    by_cases hlt : j < n
    · obtain ⟨x, he, hsx, hatx⟩ := hc j hlt
      have hlt' : (j : Int) < (n : Int) := by omega
      have HQ : Hid (G = if leansB x o.id then -1 else if (x.kind == 3) && (x.id == o.id) then (j : Int) else goesAt o.id (ops.drop (j + 1)) (j + 1)) := by show _ = _; rw [← hq.out, goesAt_step he]
      obtain ⟨d0, d1, d2, d3, d4, d5, d6⟩ := hatx.of_block (hb.block b (by omega))
      have HLE := leansOn_any x o.id
      simp only [LOp.val] at HLE
      clear he hatx hc hq HG k5
      go_wp2_with fail
      refine (HLE _).mono ?_
      rintro e w1 ⟨rfl, hb1⟩
      have hbA : Below wr.heap.size wr w1 := ((Below.refl _ _).alloc (Nat.le_refl _) _).trans (hb1.mono (by simp))
      have hbb : Below w.heap.size w w1 := hb.trans (hbA.mono hb.size)
      have HX : OpAt w1 wr.heap.size 0 x := OpAt.of_block (w := wr.alloc (.cells x.val 30)) ⟨by simp [go_sem, LOp.val], by simp [go_sem, LOp.val], by simp [go_sem, LOp.val], by simp [go_sem, LOp.val], by simp [go_sem, LOp.val], by simp [go_sem, LOp.val], by simp [go_sem, LOp.val]⟩ (hb1.block _ (by simp))
      have e0 := HX.c0
      have e5 := HX.c5
      rw [Nat.zero_add] at e5
      clear HX HLE d0 d1 d2 d3 d4 d5 d6 hb1 hbA
      rcases hl : leansB x o.id with _ | _
      · have HQ2 : Hid (G = if (x.kind == 3) && (x.id == o.id) then (j : Int) else goesAt o.id (ops.drop (j + 1)) (j + 1)) := by show _ = _; rw [HQ.out, hl]; rfl
        clear hl HQ
        rcases t0 : (x.kind == 3) with _ | _
        · have HY : Hid (goesAt o.id (ops.drop (j + 1)) (j + 1) = G) := by show _ = _; rw [HQ2.out, t0]; rfl
          clear HQ2
          go_wp2_with (go_at_call 114; refine (ends_any _ _).mono ?_; rintro e w2 ⟨rfl, rfl⟩; rw [t0])
          go_roundg (n - (j + 1))
          case measure => have := hk.out; omega
          case rel => exact ⟨j + 1, by omega, by omega, rfl, by go_num, HY.out, hbb⟩
        · rcases t1 : (x.id == o.id) with _ | _
          · have HY : Hid (goesAt o.id (ops.drop (j + 1)) (j + 1) = G) := by show _ = _; rw [HQ2.out, t0, t1]; rfl
            clear HQ2
            go_wp2_with (go_at_call 114; refine (ends_any _ _).mono ?_; rintro e w2 ⟨rfl, rfl⟩; rw [t0])
            go_roundg (n - (j + 1))
            case measure => have := hk.out; omega
            case rel => exact ⟨j + 1, by omega, by omega, rfl, by go_num, HY.out, hbb⟩
          · have HY : Hid (G = (j : Int)) := by show _ = _; rw [HQ2.out, t0, t1]; rfl
            clear HQ2
            go_wp2_with (go_at_call 114; refine (ends_any _ _).mono ?_; rintro e w2 ⟨rfl, rfl⟩; rw [t0])
            go_ret2
            exact ⟨by rw [HY.out]; exact GoEnd.yes rfl, hbb⟩
      · have HY : Hid (G = -1) := by show _ = _; rw [HQ.out, hl]; rfl
        clear hl HQ
        go_wp2_with fail
        go_ret2
        exact ⟨by rw [HY.out]; exact GoEnd.no rfl, hbb⟩
    · have HN : Hid (G = -1) := by
        show _ = _
        rw [← hq.out, List.drop_of_length_le (by have := hlen.out; omega)]; rfl
      go_wp2_with fail
      go_ret2
      exact ⟨by rw [HN.out]; exact GoEnd.no rfl, hb⟩
theorem has_any (i k j : Nat) (w : World) : Calls Try.prog 118 #[.agg #[.int .i64 i, .int .i64 k], .int .i64 j] w fun e w' => e = .returned (.bool (decide (i ≤ j) && decide (j ≤ k))) ∧ w' = w.alloc (.cells #[.int .i64 i, .int .i64 k] 128) := by
  by_cases h1 : i ≤ j
  · have h1' : (i : Int) ≤ (j : Int) := by omega
    by_cases h2 : j ≤ k
    · have h2' : (j : Int) ≤ (k : Int) := by omega
      go_enter Try.func118, Try.ntmps118
      go_wp2_with fail
      go_ret
      exact ⟨ret_bool (by simp [h1, h2]), rfl⟩
    · have h2' : ¬ (j : Int) ≤ (k : Int) := by omega
      go_enter Try.func118, Try.ntmps118
      go_wp2_with fail
      go_ret
      exact ⟨ret_bool (by first | (simp; done) | (simp; omega)), rfl⟩
  · have h1' : ¬ (i : Int) ≤ (j : Int) := by omega
    go_enter Try.func118, Try.ntmps118
    go_wp2_with fail
    go_ret
    exact ⟨ret_bool (by first | (simp; done) | (simp; omega)), rfl⟩

/-- What is found of the first that goes again. -/
def PairEnd (ops : List LOp) (e : Ending) : Prop :=
  (∃ i k : Nat, i < ops.length ∧ goesL ops i = (k : Int) ∧ firstPair ops = some i ∧ e = .returned (.tuple #[.agg #[.int .i64 i, .int .i64 k], .bool true])) ∨
  (firstPair ops = none ∧ e = .returned (.tuple #[.agg #[.int .i64 0, .int .i64 0], .bool false]))
set_option maxHeartbeats 1000000 in
theorem firstPair_any (a : Option Addr) (n c : Nat) (ops : List LOp) (L U : Nat) (w : World) (hU : U ≤ w.heap.size) (H : OpsAt w L U a n ops) :
    Calls Try.prog 116 #[.slice a n c] w fun e w' => PairEnd ops e ∧ Below w.heap.size w w' := by
  have hbd := H.bd
  have hlen : Hid (n = ops.length) := H.len
  unfold maxLen at hbd
  have hB : Below w.heap.size w (w.alloc (.cells #[.int .i64 0, .int .i64 0] 128)) := (Below.refl _ _).alloc (Nat.le_refl _) _
  go_enter Try.func116, Try.ntmps116
  go_wp2_with fail
  go_loopg [10] n (fun g k wr => ∃ j : Nat, j ≤ n ∧ Hid (g = n - j) ∧ k = .int .i64 j ∧ Hid (∀ t, t < j → goesL ops t < 0) ∧ wr.rowIs w.heap.size 128 2 (fun _ => .int .i64 0) ∧ Below w.heap.size w wr)
  case atStart => exact ⟨0, Nat.zero_le _, rfl, rfl, fun t ht => by omega, World.rowIs_alloc w #[.int .i64 0, .int .i64 0] 128 (fun _ => .int .i64 0) (fun i hi => by match i, hi with | 0, _ => rfl | 1, _ => rfl), hB⟩
  case round =>
    obtain ⟨j, hj, hk, rfl, hno, hrow, hb⟩ := hrel
    have z0 := hrow.frozen 0
    have z1 := hrow.frozen 1
    have r0 := hrow.cell (i := 0) (by omega)
    have r1 := hrow.cell (i := 1) (by omega)
    have hrl := hrow.lt
    by_cases hlt : j < n
    · have HA := H.below hb hU
      obtain ⟨b, off, ha, hL, hbU, hc⟩ := H.at_ (by omega)
      subst ha
      obtain ⟨x, he, hsx, hat⟩ := hc j hlt
      obtain ⟨d0, d1, d2, d3, d4, d5, d6⟩ := hat.of_block (hb.block b (by omega))
      have hlt' : (j : Int) < (n : Int) := by omega
      have HG : Hid (goesL ops j = if makesB x then goesAt x.id (ops.drop (j + 1)) (j + 1) else -1) := goesL_at he
      have HE : Hid (ops[j]? = some x) := he
      have hB1 : ∀ o1 : Obj, Below wr.heap.size wr (wr.alloc o1) := fun o1 => (Below.refl _ _).alloc (Nat.le_refl _) _
      clear hc hat he
      rcases hm : makesB x with _ | _
      · have hm' : ((x.kind == 1) || (x.kind == 2)) = false := hm
        have HN : Hid (∀ t, t < j + 1 → goesL ops t < 0) := fun t ht => by
          by_cases e : t = j
          · subst e; rw [HG.out, hm]; simp
          · exact hno.out t (by omega)
        have HR : Hid (wr.rowIs w.heap.size 128 2 (fun _ => .int .i64 0)) := hrow
        clear hrow HG hno hm
        go_wp2_with (go_at_call 153; refine (makes_any _ _).mono ?_; rintro e w1 ⟨rfl, rfl⟩; rw [hm'])
        go_roundg (n - (j + 1))
        case measure => have := hk.out; omega
        case rel => exact ⟨j + 1, by omega, rfl, by go_num, HN.out, HR.out.alloc _, hb.alloc hb.size _⟩
      · have hm' : ((x.kind == 1) || (x.kind == 2)) = true := hm
        have HGA := fun W (hW : Below wr.heap.size wr W) => goesAgain_any (some ⟨b, off, none⟩) n c ops L U j x W hlt HE.out (by have := hW.size; have := hb.size; omega) (HA.below hW (by have := hb.size; omega))
        have HG2 : Hid (goesL ops j = goesAt x.id (ops.drop (j + 1)) (j + 1)) := by show _ = _; rw [HG.out, hm]; rfl
        have HR : Hid (wr.rowIs w.heap.size 128 2 (fun _ => .int .i64 0)) := hrow
        clear hrow HG hm
        go_wp2_with (go_at_call 153; refine (makes_any _ _).mono ?_; rintro e w1 ⟨rfl, rfl⟩; rw [hm'])
        refine (HGA _ (hB1 _)).mono ?_
        rintro e w1 ⟨hE, hb1⟩
        unfold GoEnd at hE
        subst hE
        have hbA : Below wr.heap.size wr w1 := (hB1 _).trans (hb1.mono (by simp))
        have hbb : Below w.heap.size w w1 := hb.trans (hbA.mono hb.size)
        have HR1 : Hid (w1.rowIs w.heap.size 128 2 (fun _ => .int .i64 0)) := HR.out.of_block (hbA.block _ hrl)
        have y0 := HR1.out.frozen 0
        have y1 := HR1.out.frozen 1
        have q0 := HR1.out.cell (i := 0) (by omega)
        have q1 := HR1.out.cell (i := 1) (by omega)
        clear HGA HR z0 z1 r0 r1 d0 d1 d2 d3 d4 d5 d6 hb1 HA
        by_cases h0 : 0 ≤ goesAt x.id (ops.drop (j + 1)) (j + 1)
        · obtain ⟨k, hkk⟩ : ∃ k : Nat, goesAt x.id (ops.drop (j + 1)) (j + 1) = (k : Int) := ⟨(goesAt x.id (ops.drop (j + 1)) (j + 1)).toNat, by omega⟩
          have HP : Hid (j < ops.length ∧ goesL ops j = (k : Int) ∧ firstPair ops = some j) := ⟨by have := hlen.out; omega, by rw [HG2.out, hkk], firstPair_some (by have := hlen.out; omega) (by rw [HG2.out]; exact h0) hno.out⟩
          rw [if_pos h0, decide_eq_true h0, hkk]
          clear hkk h0 HG2 hno
          go_wp2_with fail
          exact bodyPost_ret (v := .tuple #[.agg #[.int .i64 j, .int .i64 k], .bool true]) (by simp [results, Try.results116, go_sem, q0, q1]) rfl ⟨.inl ⟨j, k, HP.out.1, HP.out.2.1, HP.out.2.2, rfl⟩, (hbb.setCell (by simp) _).setCell (by simp) _⟩
        · have HN : Hid (∀ t, t < j + 1 → goesL ops t < 0) := fun t ht => by
            by_cases e : t = j
            · subst e; rw [HG2.out]; omega
            · exact hno.out t (by omega)
          rw [if_neg h0, decide_eq_false h0]
          clear h0 HG2 hno
          go_wp2_with fail
          go_roundg (n - (j + 1))
          case measure => have := hk.out; omega
          case rel => exact ⟨j + 1, by omega, rfl, by go_num, HN.out, HR1.out, hbb⟩
    · have HN : Hid (firstPair ops = none) := firstPair_none fun t ht => hno.out t (by have := hlen.out; omega)
      go_wp2_with fail
      exact bodyPost_ret (v := .tuple #[.agg #[.int .i64 0, .int .i64 0], .bool false]) (by simp [results, Try.results116, go_sem, r0, r1]) rfl ⟨.inr ⟨HN.out, rfl⟩, (hb.setCell (by simp) _).setCell (by simp) _⟩
end Go.Proofs.Ytkllejaamnojpaa
