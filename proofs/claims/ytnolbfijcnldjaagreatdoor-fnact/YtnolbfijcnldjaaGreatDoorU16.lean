/- Lemmas that the proofs of this seat share: OpBentA. -/
import Derived.Test.YtnolbfijcnldjaaGreatDoorU14
import Derived.Test.YtnolbfijcnldjaaGreatDoorU15
import Derived.Deep.CutBlock
/- Something to be done, as it is drawn, one in twelve bent (l3OpBent). -/
namespace Go.Proofs.YtnolbfijcnldjaaGreatDoor
open Go.RowKit

theorem EntsAt.blocks_ {w w' : World} {L U : Nat} {a : Option Addr} {n : Nat} {es : List LEnt} (h : EntsAt w L U a n es) (hb : ∀ b, L ≤ b → b < U → w'.heap[b]? = w.heap[b]?) : EntsAt w' L U a n es :=
  ⟨h.len, h.bd, fun hn => by
    obtain ⟨b, off, ha, hL, hbU, hc⟩ := h.at_ hn
    refine ⟨b, off, ha, hL, hbU, fun i hi => ?_⟩
    obtain ⟨e, he, hs, h0, h1⟩ := hc i hi
    have hk := hb b hL hbU
    exact ⟨e, he, hs, by rw [World.cell?_of_block (w := w) hk]; exact h0, by rw [World.cell?_of_block (w := w) hk]; exact h1⟩⟩
theorem ObjsAt.blocks_ {w w' : World} {L U : Nat} {a : Option Addr} {n : Nat} {os : List LObj} (h : ObjsAt w L U a n os) (hb : ∀ b, L ≤ b → b < U → w'.heap[b]? = w.heap[b]?) : ObjsAt w' L U a n os :=
  ⟨h.len, h.bd, fun hn => by
    obtain ⟨b, off, ha, hL, hbU, hc⟩ := h.at_ hn
    refine ⟨b, off, ha, hL, hbU, fun i hi => ?_⟩
    obtain ⟨o, ka, kn, kc, he, hs, h0, h1, h2, h3, hk⟩ := hc i hi
    have hk' := hb b hL hbU
    exact ⟨o, ka, kn, kc, he, hs, by rw [World.cell?_of_block (w := w) hk']; exact h0, by rw [World.cell?_of_block (w := w) hk']; exact h1, by rw [World.cell?_of_block (w := w) hk']; exact h2, by rw [World.cell?_of_block (w := w) hk']; exact h3, hk.blocks_ hb⟩⟩
theorem But.both_ {W3 V F : World} {rb q : Nat} (h : But rb W3 V) (hb : But q V F) (hq : W3.heap.size ≤ q) (hr : rb ≤ q) : But rb W3 F := ⟨h.below.trans (hb.below.mono hr), fun i hi hl => (hb.block i (by omega) (by have := h.below.size; omega)).trans (h.block i hi hl)⟩
theorem RdTo.both_ {V F : World} {rb q P : Nat} (h : RdTo V rb P) (hb : But q V F) (hr : rb < q) : RdTo F rb P := by
  obtain ⟨p, hp, R⟩ := h
  exact ⟨p, hp, R.below hb.below hr⟩
theorem RdTo.on_ {V : World} {rb P P' : Nat} (h : RdTo V rb P) (hP : P ≤ P') : RdTo V rb P' := by
  obtain ⟨p, hp, R⟩ := h
  exact ⟨p, by omega, R⟩
theorem opAt_of {F : World} {q : Nat} {x : LOp} {f : Nat → Value} (h : F.rowIs q 27 7 (fun i => if i = 0 + 6 then .string x.text else if i = 0 + 5 then .int .i64 x.id else if i = 0 + 4 then .string x.name2 else if i = 0 + 3 then .int .i64 x.dir2 else if i = 0 + 2 then .string x.name else if i = 0 + 1 then .int .i64 x.dir else if i = 0 then .int .i64 x.kind else f i)) : OpAt F q 0 x :=
  ⟨by rw [h.cell (by omega)]; rfl, by rw [h.cell (by omega)]; rfl, by rw [h.cell (by omega)]; rfl, by rw [h.cell (by omega)]; rfl, by rw [h.cell (by omega)]; rfl, by rw [h.cell (by omega)]; rfl, by rw [h.cell (by omega)]; rfl⟩
/-- In the midst of it: the reader, the box of what is drawn. -/
structure OB (W0 W : World) (rb P q5 : Nat) (o : LOp) : Prop where
  but : But rb W0 W
  rd : RdTo W rb P
  at_ : OpAt W q5 0 o
  row : ∃ f, W.rowIs q5 27 7 f
  lo : W0.heap.size ≤ q5
  b : o.name.size ≤ 5 ∧ o.name2.size ≤ 5 ∧ o.text.size ≤ 5
theorem OB.next {W0 W W' : World} {rb P P' q5 : Nat} {o : LOp} (h : OB W0 W rb P q5 o) (hr0 : rb < W0.heap.size) (hb : But rb W W') (hr : RdTo W' rb P') : OB W0 W' rb P' q5 o := by
  obtain ⟨f, hf⟩ := h.row
  have hk := hb.block q5 (by have := h.lo; omega) hf.lt
  exact ⟨h.but.trans hb, hr, h.at_.of_block hk, ⟨f, hf.of_block hk⟩, h.lo, h.b⟩
theorem OB.put {W0 W : World} {rb P q5 : Nat} {o : LOp} (h : OB W0 W rb P q5 o) (hr0 : rb < W0.heap.size) (k : Nat) (v : Value) (o' : LOp) (ha : OpAt (W.setCell ⟨q5, k, none⟩ v) q5 0 o') (hb' : o'.name.size ≤ 5 ∧ o'.name2.size ≤ 5 ∧ o'.text.size ≤ 5) : OB W0 (W.setCell ⟨q5, k, none⟩ v) rb P q5 o' := by
  obtain ⟨f, hf⟩ := h.row
  have hs := (But.refl q5 W).set k v
  exact ⟨h.but.both_ hs h.lo (by have := h.lo; omega), h.rd.both_ hs (by have := h.lo; omega), ha, ⟨_, hf.set k v⟩, h.lo, hb'⟩
theorem OB.on {W0 W : World} {rb P P' q5 : Nat} {o : LOp} (h : OB W0 W rb P q5 o) (hP : P ≤ P') : OB W0 W rb P' q5 o := ⟨h.but, h.rd.on_ hP, h.at_, h.row, h.lo, h.b⟩
/-- Its texts are short. -/
def OpB (o : LOp) : Prop := o.name.size ≤ 5 ∧ o.name2.size ≤ 5 ∧ o.text.size ≤ 5
def OpBentEnd (w : World) (rb P : Nat) (e : Ending) (w' : World) : Prop := (∃ o : LOp, e = .returned (.agg o.val) ∧ OpB o) ∧ RdTo w' rb P ∧ But rb w w'
set_option maxHeartbeats 4000000 in
set_option maxRecDepth 20000 in
theorem opBent_any (rb p : Nat) (a : Option Addr) (c : Nat) (os : List LObj) (L : Nat) (w : World) (hp : p ≤ 900000) (hrw : rb < w.heap.size) (hrL : rb < L) (hS : Few os) (H : ObjsAt w L w.heap.size a 32 os) (R : RdTo w rb p) :
    Calls Tryz.prog 62 #[.pointer (some ⟨rb, 0, none⟩), .agg #[.slice a 32 c]] w fun e w' => OpBentEnd w rb (p + 20) e w' := by
  go_enter Tryz.func62, Tryz.ntmps62
  go_upto_region 1 with fail
  have hA0 : Below w.heap.size w ((w.alloc (Obj.cells #[.slice a 32 c] 25)).alloc (Obj.cells #[.int .i64 0, .int .i64 0, .string ⟨#[]⟩, .int .i64 0, .string ⟨#[]⟩, .int .i64 0, .string ⟨#[]⟩] 27)) := ((Below.refl _ _).alloc (Nat.le_refl _) _).alloc (by simp) _
  have s3 : ((w.alloc (Obj.cells #[.slice a 32 c] 25)).alloc (Obj.cells #[.int .i64 0, .int .i64 0, .string ⟨#[]⟩, .int .i64 0, .string ⟨#[]⟩, .int .i64 0, .string ⟨#[]⟩] 27)).cell? ⟨w.heap.size, 0, none⟩ = some (.slice a 32 c) := by simp [go_sem]
  have R4 : Hid (((w.alloc (Obj.cells #[.slice a 32 c] 25)).alloc (Obj.cells #[.int .i64 0, .int .i64 0, .string ⟨#[]⟩, .int .i64 0, .string ⟨#[]⟩, .int .i64 0, .string ⟨#[]⟩] 27)).rowIs (w.heap.size + 1) 27 7 (zrow #[.int .i64 0, .int .i64 0, .string ⟨#[]⟩, .int .i64 0, .string ⟨#[]⟩, .int .i64 0, .string ⟨#[]⟩])) := by
    have := zrow_new (w.alloc (Obj.cells #[.slice a 32 c] 25)) #[.int .i64 0, .int .i64 0, .string ⟨#[]⟩, .int .i64 0, .string ⟨#[]⟩, .int .i64 0, .string ⟨#[]⟩] 27
    show World.rowIs _ _ _ _ _
    simpa using this
  have hz0 : w.heap.size + 2 ≤ ((w.alloc (Obj.cells #[.slice a 32 c] 25)).alloc (Obj.cells #[.int .i64 0, .int .i64 0, .string ⟨#[]⟩, .int .i64 0, .string ⟨#[]⟩, .int .i64 0, .string ⟨#[]⟩] 27)).heap.size := by simp
  generalize hW0 : (w.alloc (Obj.cells #[.slice a 32 c] 25)).alloc (Obj.cells #[.int .i64 0, .int .i64 0, .string ⟨#[]⟩, .int .i64 0, .string ⟨#[]⟩, .int .i64 0, .string ⟨#[]⟩] 27) = W0 at *
  clear hW0
  have HO : Hid (ObjsAt W0 L w.heap.size a 32 os) := H.below hA0 (Nat.le_refl _)
  have hBt : But rb W0 W0.drew := But.of_below (by omega) (Below.refl _ _).drew
  have hRd : RdTo W0.drew rb p := (R.but hA0 hrw).but (Below.refl _ _).drew (by omega)
  go_cut [5] (fun s5 wx => ∃ q5 o, s5 = .pointer (some ⟨q5, 0, none⟩) ∧ W0.heap.size ≤ q5 ∧ OpSm o ∧ OpAt wx q5 0 o ∧ (∃ f, wx.rowIs q5 27 7 f) ∧ RdTo wx rb (p + 10) ∧ But rb W0 wx)
  case first =>
    refine wp_region_held_drew (S := (fun W => W.cell? ⟨w.heap.size, 0, none⟩ = some (.slice a 32 c))) (by kernel_rfl) ?_ (fun hHeld => ?_)
    · exact s3
    refine listH (l2 := #[false, false, false, false, false, false, false]) (by kernel_rfl) ?_
    refine takeH (i := 0) (oi := _) (v := ?vk35) 6 #[true, false, false, false, false, false, false] rfl (by kernel_rfl) (by kernel_rfl) (by kernel_rfl) rfl (by kernel_rfl) (fun _ _ _ h => h) (Or.inl ⟨by rfl, ?yk35⟩) (by assumption) ?rk35
    case yk35 => (intro w' hSw; go_simp; try with_reducible rfl)
    simp only [Act.put, List.setIfInBounds_toArray, List.set_cons_succ, List.set_cons_zero]
    refine takeH (i := 1) (oi := _) (v := ?vk36) 7 #[true, true, false, false, false, false, false] rfl (by kernel_rfl) (by kernel_rfl) (by kernel_rfl) rfl (by kernel_rfl) (fun _ _ _ h => h) (Or.inl ⟨by rfl, ?yk36⟩) (by assumption) ?rk36
    case yk36 => (intro w' hSw; go_simp; try with_reducible rfl)
    simp only [Act.put, List.setIfInBounds_toArray, List.set_cons_succ, List.set_cons_zero]
    refine takeH (i := 2) (oi := _) (v := ?vk37) 8 #[true, true, true, false, false, false, false] rfl (by kernel_rfl) (by kernel_rfl) (by kernel_rfl) rfl (by kernel_rfl) (fun _ _ _ h => h) (Or.inl ⟨by rfl, ?yk37⟩) (by assumption) ?rk37
    case yk37 => (intro w' hSw; go_simp; try with_reducible rfl)
    simp only [Act.put, List.setIfInBounds_toArray, List.set_cons_succ, List.set_cons_zero]
    refine wpAnyH_ready (rs := [3, 5]) (by kernel_rfl) (by simp) ?_
    refine AllReadyH.cons (o := _) rfl (fun K hK => ?_) (AllReadyH.cons (o := _) rfl (fun K hK => ?_) AllReadyH.nil)
    · go_simp
      refine (pick_to rb p 4 _ (by omega) (by omega) (by omega) hRd).mono ?_
      rintro e V3 ⟨⟨x, rfl, hx⟩, hRd, hb3⟩
      have hBt := hBt.trans hb3
      clear hb3
      go_wp2_with fail
      refine hK.out _ _ (by rw [hBt.cell (by simp; omega) (by simp; omega)]; exact s3) (fun hHeld => ?_)
      clear hK K
      try simp only [Act.put]
      refine listH (l2 := #[true, true, true, true, false, false, false]) (by kernel_rfl) ?_
      refine wpAnyH_ready (rs := [4, 5]) (by kernel_rfl) (by simp) ?_
      refine AllReadyH.cons (o := _) rfl (fun K hK => ?_) (AllReadyH.cons (o := _) rfl (fun K hK => ?_) AllReadyH.nil)
      · go_simp
        have HT := ((HO.out.blocks_ fun i h1 h2 => hBt.block i (by omega) (by omega)).wide (Nat.le_refl _) (Nat.le_trans (by omega : w.heap.size ≤ W0.heap.size) hBt.below.size) : ObjsAt _ L _ a 32 os)
        refine (op_any rb (p + 1) a c os L (x : Int) _ (by omega) (by have := hBt.below.size; omega) hrL hS HT hRd).mono ?_
        clear HT
        rintro e V5 ⟨⟨o, rfl, ho⟩, hRd, hb5⟩
        have hBt := hBt.trans hb5
        clear hb5
        go_wp2_with fail
        refine hK.out _ _ (by rw [hBt.cell (by simp; omega) (by simp; omega)]; exact s3) (fun hHeld => ?_)
        clear hK K
        try simp only [Act.put]
        refine listH (l2 := #[true, true, true, true, true, false, false]) (by kernel_rfl) ?_
        refine wpAnyH_ready (rs := [5]) (by kernel_rfl) (by simp) ?_
        refine AllReadyH.cons (o := _) rfl (fun K hK => ?_) AllReadyH.nil
        refine st_alloc30 _ 5 ?_
        intro q5 V9 hq5 hb9 R5
        have lo5 : W0.heap.size ≤ q5 := by have := hBt.below.size; rw [hq5]; exact this
        have hBt := hBt.next (by have := hBt.below.size; omega) hb9
        have hRd := hRd.but hb9 (by have := hBt.below.size; have := hb9.size; omega)
        clear hq5 hb9
        refine hK.out _ _ (by rw [hBt.cell (by simp; omega) (by simp; omega)]; exact s3) (fun hHeld => ?_)
        clear hK K
        simp only [Act.put, List.setIfInBounds_toArray, List.set_cons_succ, List.set_cons_zero]
        refine listH (l2 := #[true, true, true, true, true, true, false]) (by kernel_rfl) ?_
        refine wpAnyH_ready (rs := [6]) (by kernel_rfl) (by simp) ?_
        refine AllReadyH.cons (o := _) rfl (fun K hK => ?_) AllReadyH.nil
        refine st_store30 _ 5 10 q5 0 o 7 _ rfl rfl R5 (by omega) ⟨⟨0, 0, ⟨#[]⟩, 0, ⟨#[]⟩, 0, ⟨#[]⟩⟩, rfl, rfl, rfl, rfl, rfl, rfl, rfl⟩ ?_
        intro F hbF hrF
        have hBt := hBt.both_ hbF lo5 (by omega)
        have hRd := hRd.both_ hbF (by omega)
        refine hK.out _ _ (by rw [hBt.cell (by simp; omega) (by simp; omega)]; exact s3) (fun hHeld => ?_)
        clear hK K
        refine listH (l2 := #[true, true, true, true, true, true, true]) (by kernel_rfl) ?_
        refine wpAnyH_done (by kernel_rfl) ?_ _
        go_wp2_with fail
        go_meet
        exact ⟨q5, o, rfl, lo5, ho, opAt_of hrF, ⟨_, hrF⟩, hRd, hBt⟩
      · refine st_alloc30 _ 5 ?_
        intro q5 V9 hq5 hb9 R5
        have lo5 : W0.heap.size ≤ q5 := by have := hBt.below.size; rw [hq5]; exact this
        have hBt := hBt.next (by have := hBt.below.size; omega) hb9
        have hRd := hRd.but hb9 (by have := hBt.below.size; have := hb9.size; omega)
        clear hq5 hb9
        refine hK.out _ _ (by rw [hBt.cell (by simp; omega) (by simp; omega)]; exact s3) (fun hHeld => ?_)
        clear hK K
        simp only [Act.put, List.setIfInBounds_toArray, List.set_cons_succ, List.set_cons_zero]
        refine listH (l2 := #[true, true, true, true, false, true, false]) (by kernel_rfl) ?_
        refine wpAnyH_ready (rs := [4]) (by kernel_rfl) (by simp) ?_
        refine AllReadyH.cons (o := _) rfl (fun K hK => ?_) AllReadyH.nil
        go_simp
        have HT := ((HO.out.blocks_ fun i h1 h2 => hBt.block i (by omega) (by omega)).wide (Nat.le_refl _) (Nat.le_trans (by omega : w.heap.size ≤ W0.heap.size) hBt.below.size) : ObjsAt _ L _ a 32 os)
        refine (op_any rb (p + 1) a c os L (x : Int) _ (by omega) (by have := hBt.below.size; omega) hrL hS HT hRd).mono ?_
        clear HT
        rintro e V5 ⟨⟨o, rfl, ho⟩, hRd, hb5⟩
        have hBt := hBt.trans hb5
        have R5 := R5.of_block (hb5.block q5 (by omega) R5.lt)
        clear hb5
        go_wp2_with fail
        refine hK.out _ _ (by rw [hBt.cell (by simp; omega) (by simp; omega)]; exact s3) (fun hHeld => ?_)
        clear hK K
        try simp only [Act.put]
        refine listH (l2 := #[true, true, true, true, true, true, false]) (by kernel_rfl) ?_
        refine wpAnyH_ready (rs := [6]) (by kernel_rfl) (by simp) ?_
        refine AllReadyH.cons (o := _) rfl (fun K hK => ?_) AllReadyH.nil
        refine st_store30 _ 5 10 q5 0 o 7 _ rfl rfl R5 (by omega) ⟨⟨0, 0, ⟨#[]⟩, 0, ⟨#[]⟩, 0, ⟨#[]⟩⟩, rfl, rfl, rfl, rfl, rfl, rfl, rfl⟩ ?_
        intro F hbF hrF
        have hBt := hBt.both_ hbF lo5 (by omega)
        have hRd := hRd.both_ hbF (by omega)
        refine hK.out _ _ (by rw [hBt.cell (by simp; omega) (by simp; omega)]; exact s3) (fun hHeld => ?_)
        clear hK K
        refine listH (l2 := #[true, true, true, true, true, true, true]) (by kernel_rfl) ?_
        refine wpAnyH_done (by kernel_rfl) ?_ _
        go_wp2_with fail
        go_meet
        exact ⟨q5, o, rfl, lo5, ho, opAt_of hrF, ⟨_, hrF⟩, hRd, hBt⟩
    · refine st_alloc30 _ 5 ?_
      intro q5 V9 hq5 hb9 R5
      have lo5 : W0.heap.size ≤ q5 := by have := hBt.below.size; rw [hq5]; exact this
      have hBt := hBt.next (by have := hBt.below.size; omega) hb9
      have hRd := hRd.but hb9 (by have := hBt.below.size; have := hb9.size; omega)
      clear hq5 hb9
      refine hK.out _ _ (by rw [hBt.cell (by simp; omega) (by simp; omega)]; exact s3) (fun hHeld => ?_)
      clear hK K
      simp only [Act.put, List.setIfInBounds_toArray, List.set_cons_succ, List.set_cons_zero]
      refine listH (l2 := #[true, true, true, false, false, true, false]) (by kernel_rfl) ?_
      refine wpAnyH_ready (rs := [3]) (by kernel_rfl) (by simp) ?_
      refine AllReadyH.cons (o := _) rfl (fun K hK => ?_) AllReadyH.nil
      go_simp
      refine (pick_to rb p 4 _ (by omega) (by omega) (by omega) hRd).mono ?_
      rintro e V3 ⟨⟨x, rfl, hx⟩, hRd, hb3⟩
      have hBt := hBt.trans hb3
      have R5 := R5.of_block (hb3.block q5 (by omega) R5.lt)
      clear hb3
      go_wp2_with fail
      refine hK.out _ _ (by rw [hBt.cell (by simp; omega) (by simp; omega)]; exact s3) (fun hHeld => ?_)
      clear hK K
      try simp only [Act.put]
      refine listH (l2 := #[true, true, true, true, false, true, false]) (by kernel_rfl) ?_
      refine wpAnyH_ready (rs := [4]) (by kernel_rfl) (by simp) ?_
      refine AllReadyH.cons (o := _) rfl (fun K hK => ?_) AllReadyH.nil
      go_simp
      have HT := ((HO.out.blocks_ fun i h1 h2 => hBt.block i (by omega) (by omega)).wide (Nat.le_refl _) (Nat.le_trans (by omega : w.heap.size ≤ W0.heap.size) hBt.below.size) : ObjsAt _ L _ a 32 os)
      refine (op_any rb (p + 1) a c os L (x : Int) _ (by omega) (by have := hBt.below.size; omega) hrL hS HT hRd).mono ?_
      clear HT
      rintro e V5 ⟨⟨o, rfl, ho⟩, hRd, hb5⟩
      have hBt := hBt.trans hb5
      have R5 := R5.of_block (hb5.block q5 (by omega) R5.lt)
      clear hb5
      go_wp2_with fail
      refine hK.out _ _ (by rw [hBt.cell (by simp; omega) (by simp; omega)]; exact s3) (fun hHeld => ?_)
      clear hK K
      try simp only [Act.put]
      refine listH (l2 := #[true, true, true, true, true, true, false]) (by kernel_rfl) ?_
      refine wpAnyH_ready (rs := [6]) (by kernel_rfl) (by simp) ?_
      refine AllReadyH.cons (o := _) rfl (fun K hK => ?_) AllReadyH.nil
      refine st_store30 _ 5 10 q5 0 o 7 _ rfl rfl R5 (by omega) ⟨⟨0, 0, ⟨#[]⟩, 0, ⟨#[]⟩, 0, ⟨#[]⟩⟩, rfl, rfl, rfl, rfl, rfl, rfl, rfl⟩ ?_
      intro F hbF hrF
      have hBt := hBt.both_ hbF lo5 (by omega)
      have hRd := hRd.both_ hbF (by omega)
      refine hK.out _ _ (by rw [hBt.cell (by simp; omega) (by simp; omega)]; exact s3) (fun hHeld => ?_)
      clear hK K
      refine listH (l2 := #[true, true, true, true, true, true, true]) (by kernel_rfl) ?_
      refine wpAnyH_done (by kernel_rfl) ?_ _
      go_wp2_with fail
      go_meet
      exact ⟨q5, o, rfl, lo5, ho, opAt_of hrF, ⟨_, hrF⟩, hRd, hBt⟩
  obtain ⟨q5, o, rfl, lo5, ho, ha5, hr5, hrd5, hbt5⟩ := hcut
  have hr0 : rb < W0.heap.size := by omega
  have HB5 : Hid (OB W0 wc rb (p + 10) q5 o) := ⟨hbt5, hrd5, ha5, hr5, lo5, by have := ho.1; have := ho.2.1; have := ho.2.2; omega⟩
  clear ha5 hr5 hrd5 hbt5 hBt hRd s3 HO
  rename World => W5
  go_wp2_with fail
  refine (pick_to rb (p + 10) 48 _ (by omega) (by omega) (by omega) HB5.out.rd).mono ?_
  rintro e W6 ⟨⟨d, rfl, hd⟩, hr6, hb6⟩
  have HB6 : Hid (OB W0 W6 rb (p + 11) q5 o) := HB5.out.next hr0 hb6 hr6
  have hz6 : W0.heap.size ≤ W6.heap.size := HB6.out.but.below.size
  have hq5 : q5 < W6.heap.size := by obtain ⟨f, hf⟩ := HB6.out.row; exact hf.lt
  clear HB5 hr6 hb6 ho
  go_upto_block 0 with fail
  go_cut [] (fun wx => ∃ o', OB W0 wx rb (p + 12) q5 o')
  case first =>
    by_cases d0 : d = 0
    · subst d0
      go_wp2_with fail
      have hal : Below W6.heap.size W6 (W6.alloc (Obj.cells #[.int .i64 0, .int .i64 6] 3)) := (Below.refl _ _).alloc (Nat.le_refl _) _
      have H7 := HB6.out.next hr0 (But.of_below (by omega) hal) (HB6.out.rd.but hal (by omega))
      refine (num_to (fun _ => True) rb (p + 11) W6.heap.size 2 2 _ (by omega) (by omega) (by omega) (by omega) H7.rd ?_).mono ?_
      · intro i hi
        match i, hi with
        | 0, _ => exact ⟨0, by simp [go_sem], trivial⟩
        | 1, _ => exact ⟨6, by simp [go_sem], trivial⟩
      rintro e W7 ⟨⟨z, rfl, _⟩, hr7, hb7⟩
      have HB7 : Hid (OB W0 W7 rb (p + 11 + 1) q5 o) := H7.next hr0 hb7 hr7
      obtain ⟨f7, hf7⟩ := HB7.out.row
      obtain ⟨e0, e1, e2, e3, e4, e5, e6⟩ := HB7.out.at_
      have y0 := hf7.frozen 0
      have hl7 := hf7.lt
      clear hf7 H7 hb7 hr7 hal
      go_wp2_with fail
      go_meet
      exact ⟨_, HB7.out.put hr0 0 (.int .i64 z) { o with kind := z } ⟨by simp [go_sem, e0], by simp [go_sem, e1], by simp [go_sem, e2], by simp [go_sem, e3], by simp [go_sem, e4], by simp [go_sem, e5], by simp [go_sem, e6]⟩ HB7.out.b⟩
    by_cases d1 : d = 1
    · subst d1
      go_wp2_with fail
      have hal : Below W6.heap.size W6 (W6.alloc (Obj.cells #[.int .i64 0, .int .i64 32, .int .i64 (-1)] 3)) := (Below.refl _ _).alloc (Nat.le_refl _) _
      have H7 := HB6.out.next hr0 (But.of_below (by omega) hal) (HB6.out.rd.but hal (by omega))
      refine (num_to (fun _ => True) rb (p + 11) W6.heap.size 3 3 _ (by omega) (by omega) (by omega) (by omega) H7.rd ?_).mono ?_
      · intro i hi
        match i, hi with
        | 0, _ => exact ⟨0, by simp [go_sem], trivial⟩
        | 1, _ => exact ⟨32, by simp [go_sem], trivial⟩
        | 2, _ => exact ⟨-1, by simp [go_sem], trivial⟩
      rintro e W7 ⟨⟨z, rfl, _⟩, hr7, hb7⟩
      have HB7 : Hid (OB W0 W7 rb (p + 11 + 1) q5 o) := H7.next hr0 hb7 hr7
      obtain ⟨f7, hf7⟩ := HB7.out.row
      obtain ⟨e0, e1, e2, e3, e4, e5, e6⟩ := HB7.out.at_
      have y0 := hf7.frozen 5
      have hl7 := hf7.lt
      clear hf7 H7 hb7 hr7 hal
      go_wp2_with fail
      go_meet
      exact ⟨_, HB7.out.put hr0 5 (.int .i64 z) { o with id := z } ⟨by simp [go_sem, e0], by simp [go_sem, e1], by simp [go_sem, e2], by simp [go_sem, e3], by simp [go_sem, e4], by simp [go_sem, e5], by simp [go_sem, e6]⟩ HB7.out.b⟩
    by_cases d2 : d = 2
    · subst d2
      go_wp2_with fail
      have hal : Below W6.heap.size W6 (W6.alloc (Obj.cells #[.string ⟨#[]⟩, .string ⟨#[65]⟩, .string ⟨#[97, 98, 99, 100, 101]⟩] 9)) := (Below.refl _ _).alloc (Nat.le_refl _) _
      have H7 := HB6.out.next hr0 (But.of_below (by omega) hal) (HB6.out.rd.but hal (by omega))
      refine (of_to rb (p + 11) W6.heap.size 3 3 5 _ (by omega) (by omega) (by omega) (by omega) H7.rd ?_).mono ?_
      · intro i hi
        match i, hi with
        | 0, _ => exact ⟨⟨#[]⟩, by simp [go_sem], by decide⟩
        | 1, _ => exact ⟨⟨#[65]⟩, by simp [go_sem], by decide⟩
        | 2, _ => exact ⟨⟨#[97, 98, 99, 100, 101]⟩, by simp [go_sem], by decide⟩
      rintro e W7 ⟨⟨z, rfl, hz⟩, hr7, hb7⟩
      have HB7 : Hid (OB W0 W7 rb (p + 11 + 1) q5 o) := H7.next hr0 hb7 hr7
      obtain ⟨f7, hf7⟩ := HB7.out.row
      obtain ⟨e0, e1, e2, e3, e4, e5, e6⟩ := HB7.out.at_
      have y0 := hf7.frozen 2
      have hl7 := hf7.lt
      clear hf7 H7 hb7 hr7 hal
      go_wp2_with fail
      go_meet
      exact ⟨_, HB7.out.put hr0 2 (.string z) { o with name := z } ⟨by simp [go_sem, e0], by simp [go_sem, e1], by simp [go_sem, e2], by simp [go_sem, e3], by simp [go_sem, e4], by simp [go_sem, e5], by simp [go_sem, e6]⟩ ⟨hz, HB7.out.b.2⟩⟩
    by_cases d3 : d = 3
    · subst d3
      obtain ⟨f7, hf7⟩ := HB6.out.row
      obtain ⟨e0, e1, e2, e3, e4, e5, e6⟩ := HB6.out.at_
      have y0 := hf7.frozen 6
      have hl7 := hf7.lt
      clear hf7
      go_wp2_with fail
      go_meet
      exact ⟨_, (HB6.out.put hr0 6 (.string ⟨#[65]⟩) { o with text := ⟨#[65]⟩ } ⟨by simp [go_sem, e0], by simp [go_sem, e1], by simp [go_sem, e2], by simp [go_sem, e3], by simp [go_sem, e4], by simp [go_sem, e5], by simp [go_sem, e6]⟩ ⟨HB6.out.b.1, HB6.out.b.2.1, show (⟨#[65]⟩ : ByteArray).size ≤ 5 by decide⟩).on (by omega)⟩
    · have t0 : ((d : Int) == 0) = false := by simp; omega
      have t1 : ((d : Int) == 1) = false := by simp; omega
      have t2 : ((d : Int) == 2) = false := by simp; omega
      have t3 : ((d : Int) == 3) = false := by simp; omega
      go_wp2_with fail
      go_meet
      exact ⟨o, HB6.out.on (by omega)⟩
  obtain ⟨o9, h9⟩ := hcut
  have R4w := R4.out.of_block (h9.but.block (w.heap.size + 1) (by omega) R4.out.lt)
  have g0 : wc.cell? ⟨w.heap.size + 1, 0, none⟩ = some (.int .i64 0) := by rw [R4w.cell (by omega)]; rfl
  have z0 := R4w.frozen 0
  have g1 : wc.cell? ⟨w.heap.size + 1, 1, none⟩ = some (.int .i64 0) := by rw [R4w.cell (by omega)]; rfl
  have z1 := R4w.frozen 1
  have g2 : wc.cell? ⟨w.heap.size + 1, 2, none⟩ = some (.string ⟨#[]⟩) := by rw [R4w.cell (by omega)]; rfl
  have z2 := R4w.frozen 2
  have g3 : wc.cell? ⟨w.heap.size + 1, 3, none⟩ = some (.int .i64 0) := by rw [R4w.cell (by omega)]; rfl
  have z3 := R4w.frozen 3
  have g4 : wc.cell? ⟨w.heap.size + 1, 4, none⟩ = some (.string ⟨#[]⟩) := by rw [R4w.cell (by omega)]; rfl
  have z4 := R4w.frozen 4
  have g5 : wc.cell? ⟨w.heap.size + 1, 5, none⟩ = some (.int .i64 0) := by rw [R4w.cell (by omega)]; rfl
  have z5 := R4w.frozen 5
  have g6 : wc.cell? ⟨w.heap.size + 1, 6, none⟩ = some (.string ⟨#[]⟩) := by rw [R4w.cell (by omega)]; rfl
  have z6 := R4w.frozen 6
  have hl4 := R4w.lt
  have H9 : Hid (OB W0 wc rb (p + 12) q5 o9) := h9
  obtain ⟨e0, e1, e2, e3, e4, e5, e6⟩ := h9.at_
  simp only [Nat.zero_add] at e1 e2 e3 e4 e5 e6
  have HA0 : Hid (But rb w W0) := But.of_below hrw hA0
  clear R4 R4w h9 HB6 hA0
  go_wp2_with fail
  refine bodyPost_ret (v := .agg o9.val) (by simp [results, Tryz.results62, go_sem, LOp.val, g0, g1, g2, g3, g4, g5, g6]) rfl ?_
  have hs : But (w.heap.size + 1) wc _ := ((((((((But.refl (w.heap.size + 1) wc).set 0 (.int .i64 o9.kind)).set 1 (.int .i64 o9.dir)).set 2 (.string o9.name)).set 3 (.int .i64 o9.dir2)).set 4 (.string o9.name2)).set 5 (.int .i64 o9.id)).set 6 (.string o9.text))
  exact ⟨⟨o9, rfl, H9.out.b⟩, (H9.out.rd.on_ (by omega)).both_ hs (by omega), (HA0.out.trans H9.out.but).both_ hs (by omega) (by omega)⟩
end Go.Proofs.YtnolbfijcnldjaaGreatDoor
