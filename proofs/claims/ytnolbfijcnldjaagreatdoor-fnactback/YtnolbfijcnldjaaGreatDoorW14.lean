/- Lemmas that the proofs of this seat share: OpBentA, CloneA, InsA, Place. -/
import Derived.Test.YtnolbfijcnldjaaGreatDoorW12
import Derived.Test.YtnolbfijcnldjaaGreatDoorW13
import Derived.Deep.CutBlock
import Derived.Test.YtnolbfijcnldjaaGreatDoorW09
import Derived.Test.YtnolbfijcnldjaaGreatDoorW03
import Derived.Deep.Upon
import Derived.Test.YtnolbfijcnldjaaGreatDoorW08
import Derived.Laws.CopyRow
import Derived.Lib.AppendZerosOnto
import Derived.Lib.Overlaps
import Derived.Lib.Bytealg
import Derived.Lib.Walk
/- Something to be done, as it is drawn, one in twelve bent (l3OpBent). -/
namespace Go.Proofs.YtnolbfijcnldjaaGreatDoor
open Go.RowKit

theorem EntsAt.blocks_ {w w' : World} {L U : Nat} {a : Option Addr} {n : Nat} {es : List LEnt} (h : EntsAt w L U a n es) (hb : ∀ b, L ≤ b → b < U → w'.heap[b]? = w.heap[b]?) : EntsAt w' L U a n es :=
  ⟨h.len, h.bd, fun hn => by
    obtain ⟨b, off, ha, hL, hbU, hc⟩ := h.at_ hn
    refine ⟨b, off, ha, hL, hbU, fun i hi => ?_⟩
    obtain ⟨e, he, hs, h0, h1⟩ := hc i hi
    have hk := hb b hL hbU
    exact ⟨e, he, hs, by rw [World.cell?_of_block (w := w) hk]; exact h0, by rw [World.cell?_of_block (w := w) hk]; exact h1⟩⟩
theorem ObjsAt.blocks_ {w w' : World} {L U : Nat} {a : Option Addr} {n : Nat} {os : List LObj} (h : ObjsAt w L U a n os) (hb : ∀ b, L ≤ b → b < U → w'.heap[b]? = w.heap[b]?) : ObjsAt w' L U a n os :=
  ⟨h.len, h.bd, fun hn => by
    obtain ⟨b, off, ha, hL, hbU, hc⟩ := h.at_ hn
    refine ⟨b, off, ha, hL, hbU, fun i hi => ?_⟩
    obtain ⟨o, ka, kn, kc, he, hs, h0, h1, h2, h3, hk⟩ := hc i hi
    have hk' := hb b hL hbU
    exact ⟨o, ka, kn, kc, he, hs, by rw [World.cell?_of_block (w := w) hk']; exact h0, by rw [World.cell?_of_block (w := w) hk']; exact h1, by rw [World.cell?_of_block (w := w) hk']; exact h2, by rw [World.cell?_of_block (w := w) hk']; exact h3, hk.blocks_ hb⟩⟩
theorem But.both_ {W3 V F : World} {rb q : Nat} (h : But rb W3 V) (hb : But q V F) (hq : W3.heap.size ≤ q) (hr : rb ≤ q) : But rb W3 F := ⟨h.below.trans (hb.below.mono hr), fun i hi hl => (hb.block i (by omega) (by have := h.below.size; omega)).trans (h.block i hi hl)⟩
theorem RdTo.both_ {V F : World} {rb q P : Nat} (h : RdTo V rb P) (hb : But q V F) (hr : rb < q) : RdTo F rb P := by
  obtain ⟨p, hp, R⟩ := h
  exact ⟨p, hp, R.below hb.below hr⟩
theorem RdTo.on_ {V : World} {rb P P' : Nat} (h : RdTo V rb P) (hP : P ≤ P') : RdTo V rb P' := by
  obtain ⟨p, hp, R⟩ := h
  exact ⟨p, by omega, R⟩
theorem opAt_of {F : World} {q : Nat} {x : LOp} {f : Nat → Value} (h : F.rowIs q 27 7 (fun i => if i = 0 + 6 then .string x.text else if i = 0 + 5 then .int .i64 x.id else if i = 0 + 4 then .string x.name2 else if i = 0 + 3 then .int .i64 x.dir2 else if i = 0 + 2 then .string x.name else if i = 0 + 1 then .int .i64 x.dir else if i = 0 then .int .i64 x.kind else f i)) : OpAt F q 0 x :=
  ⟨by rw [h.cell (by omega)]; rfl, by rw [h.cell (by omega)]; rfl, by rw [h.cell (by omega)]; rfl, by rw [h.cell (by omega)]; rfl, by rw [h.cell (by omega)]; rfl, by rw [h.cell (by omega)]; rfl, by rw [h.cell (by omega)]; rfl⟩
/-- In the midst of it: the reader, the box of what is drawn. -/
structure OB (W0 W : World) (rb P q5 : Nat) (o : LOp) : Prop where
  but : But rb W0 W
  rd : RdTo W rb P
  at_ : OpAt W q5 0 o
  row : ∃ f, W.rowIs q5 27 7 f
  lo : W0.heap.size ≤ q5
  b : o.name.size ≤ 5 ∧ o.name2.size ≤ 5 ∧ o.text.size ≤ 5
theorem OB.next {W0 W W' : World} {rb P P' q5 : Nat} {o : LOp} (h : OB W0 W rb P q5 o) (hr0 : rb < W0.heap.size) (hb : But rb W W') (hr : RdTo W' rb P') : OB W0 W' rb P' q5 o := by
  obtain ⟨f, hf⟩ := h.row
  have hk := hb.block q5 (by have := h.lo; omega) hf.lt
  exact ⟨h.but.trans hb, hr, h.at_.of_block hk, ⟨f, hf.of_block hk⟩, h.lo, h.b⟩
theorem OB.put {W0 W : World} {rb P q5 : Nat} {o : LOp} (h : OB W0 W rb P q5 o) (hr0 : rb < W0.heap.size) (k : Nat) (v : Value) (o' : LOp) (ha : OpAt (W.setCell ⟨q5, k, none⟩ v) q5 0 o') (hb' : o'.name.size ≤ 5 ∧ o'.name2.size ≤ 5 ∧ o'.text.size ≤ 5) : OB W0 (W.setCell ⟨q5, k, none⟩ v) rb P q5 o' := by
  obtain ⟨f, hf⟩ := h.row
  have hs := (But.refl q5 W).set k v
  exact ⟨h.but.both_ hs h.lo (by have := h.lo; omega), h.rd.both_ hs (by have := h.lo; omega), ha, ⟨_, hf.set k v⟩, h.lo, hb'⟩
theorem OB.on {W0 W : World} {rb P P' q5 : Nat} {o : LOp} (h : OB W0 W rb P q5 o) (hP : P ≤ P') : OB W0 W rb P' q5 o := ⟨h.but, h.rd.on_ hP, h.at_, h.row, h.lo, h.b⟩
/-- Its texts are short. -/
def OpB (o : LOp) : Prop := o.name.size ≤ 5 ∧ o.name2.size ≤ 5 ∧ o.text.size ≤ 5
def OpBentEnd (w : World) (rb P : Nat) (e : Ending) (w' : World) : Prop := (∃ o : LOp, e = .returned (.agg o.val) ∧ OpB o) ∧ RdTo w' rb P ∧ But rb w w'
set_option maxHeartbeats 4000000 in
set_option maxRecDepth 20000 in
theorem opBent_any (rb p : Nat) (a : Option Addr) (c : Nat) (os : List LObj) (L : Nat) (w : World) (hp : p ≤ 900000) (hrw : rb < w.heap.size) (hrL : rb < L) (hS : Few os) (H : ObjsAt w L w.heap.size a 32 os) (R : RdTo w rb p) :
    Calls Tryz.prog 62 #[.pointer (some ⟨rb, 0, none⟩), .agg #[.slice a 32 c]] w fun e w' => OpBentEnd w rb (p + 20) e w' := by
  go_enter Tryz.func62, Tryz.ntmps62
  go_upto_region 1 with fail
  have hA0 : Below w.heap.size w ((w.alloc (Obj.cells #[.slice a 32 c] 25)).alloc (Obj.cells #[.int .i64 0, .int .i64 0, .string ⟨#[]⟩, .int .i64 0, .string ⟨#[]⟩, .int .i64 0, .string ⟨#[]⟩] 27)) := ((Below.refl _ _).alloc (Nat.le_refl _) _).alloc (by simp) _
  have s3 : ((w.alloc (Obj.cells #[.slice a 32 c] 25)).alloc (Obj.cells #[.int .i64 0, .int .i64 0, .string ⟨#[]⟩, .int .i64 0, .string ⟨#[]⟩, .int .i64 0, .string ⟨#[]⟩] 27)).cell? ⟨w.heap.size, 0, none⟩ = some (.slice a 32 c) := by simp [go_sem]
  have R4 : Hid (((w.alloc (Obj.cells #[.slice a 32 c] 25)).alloc (Obj.cells #[.int .i64 0, .int .i64 0, .string ⟨#[]⟩, .int .i64 0, .string ⟨#[]⟩, .int .i64 0, .string ⟨#[]⟩] 27)).rowIs (w.heap.size + 1) 27 7 (zrow #[.int .i64 0, .int .i64 0, .string ⟨#[]⟩, .int .i64 0, .string ⟨#[]⟩, .int .i64 0, .string ⟨#[]⟩])) := by
    have := zrow_new (w.alloc (Obj.cells #[.slice a 32 c] 25)) #[.int .i64 0, .int .i64 0, .string ⟨#[]⟩, .int .i64 0, .string ⟨#[]⟩, .int .i64 0, .string ⟨#[]⟩] 27
    show World.rowIs _ _ _ _ _
    simpa using this
  have hz0 : w.heap.size + 2 ≤ ((w.alloc (Obj.cells #[.slice a 32 c] 25)).alloc (Obj.cells #[.int .i64 0, .int .i64 0, .string ⟨#[]⟩, .int .i64 0, .string ⟨#[]⟩, .int .i64 0, .string ⟨#[]⟩] 27)).heap.size := by simp
  generalize hW0 : (w.alloc (Obj.cells #[.slice a 32 c] 25)).alloc (Obj.cells #[.int .i64 0, .int .i64 0, .string ⟨#[]⟩, .int .i64 0, .string ⟨#[]⟩, .int .i64 0, .string ⟨#[]⟩] 27) = W0 at *
  clear hW0
  have HO : Hid (ObjsAt W0 L w.heap.size a 32 os) := H.below hA0 (Nat.le_refl _)
  have hBt : But rb W0 W0.drew := But.of_below (by omega) (Below.refl _ _).drew
  have hRd : RdTo W0.drew rb p := (R.but hA0 hrw).but (Below.refl _ _).drew (by omega)
  go_cut [5] (fun s5 wx => ∃ q5 o, s5 = .pointer (some ⟨q5, 0, none⟩) ∧ W0.heap.size ≤ q5 ∧ OpSm o ∧ OpAt wx q5 0 o ∧ (∃ f, wx.rowIs q5 27 7 f) ∧ RdTo wx rb (p + 10) ∧ But rb W0 wx)
  case first =>
    refine wp_region_held_drew (S := (fun W => W.cell? ⟨w.heap.size, 0, none⟩ = some (.slice a 32 c))) (by kernel_rfl) ?_ (fun hHeld => ?_)
    · exact s3
    refine listH (l2 := #[false, false, false, false, false, false, false]) (by kernel_rfl) ?_
    refine takeH (i := 0) (oi := _) (v := ?vk35) 6 #[true, false, false, false, false, false, false] rfl (by kernel_rfl) (by kernel_rfl) (by kernel_rfl) rfl (by kernel_rfl) (fun _ _ _ h => h) (Or.inl ⟨by rfl, ?yk35⟩) (by assumption) ?rk35
    case yk35 => (intro w' hSw; go_simp; try with_reducible rfl)
    simp only [Act.put, List.setIfInBounds_toArray, List.set_cons_succ, List.set_cons_zero]
    refine takeH (i := 1) (oi := _) (v := ?vk36) 7 #[true, true, false, false, false, false, false] rfl (by kernel_rfl) (by kernel_rfl) (by kernel_rfl) rfl (by kernel_rfl) (fun _ _ _ h => h) (Or.inl ⟨by rfl, ?yk36⟩) (by assumption) ?rk36
    case yk36 => (intro w' hSw; go_simp; try with_reducible rfl)
    simp only [Act.put, List.setIfInBounds_toArray, List.set_cons_succ, List.set_cons_zero]
    refine takeH (i := 2) (oi := _) (v := ?vk37) 8 #[true, true, true, false, false, false, false] rfl (by kernel_rfl) (by kernel_rfl) (by kernel_rfl) rfl (by kernel_rfl) (fun _ _ _ h => h) (Or.inl ⟨by rfl, ?yk37⟩) (by assumption) ?rk37
    case yk37 => (intro w' hSw; go_simp; try with_reducible rfl)
    simp only [Act.put, List.setIfInBounds_toArray, List.set_cons_succ, List.set_cons_zero]
    refine wpAnyH_ready (rs := [3, 5]) (by kernel_rfl) (by simp) ?_
    refine AllReadyH.cons (o := _) rfl (fun K hK => ?_) (AllReadyH.cons (o := _) rfl (fun K hK => ?_) AllReadyH.nil)
    · go_simp
      refine (pick_to rb p 4 _ (by omega) (by omega) (by omega) hRd).mono ?_
      rintro e V3 ⟨⟨x, rfl, hx⟩, hRd, hb3⟩
      have hBt := hBt.trans hb3
      clear hb3
      go_wp2_with fail
      refine hK.out _ _ (by rw [hBt.cell (by simp; omega) (by simp; omega)]; exact s3) (fun hHeld => ?_)
      clear hK K
      try simp only [Act.put]
      refine listH (l2 := #[true, true, true, true, false, false, false]) (by kernel_rfl) ?_
      refine wpAnyH_ready (rs := [4, 5]) (by kernel_rfl) (by simp) ?_
      refine AllReadyH.cons (o := _) rfl (fun K hK => ?_) (AllReadyH.cons (o := _) rfl (fun K hK => ?_) AllReadyH.nil)
      · go_simp
        have HT := ((HO.out.blocks_ fun i h1 h2 => hBt.block i (by omega) (by omega)).wide (Nat.le_refl _) (Nat.le_trans (by omega : w.heap.size ≤ W0.heap.size) hBt.below.size) : ObjsAt _ L _ a 32 os)
        refine (op_any rb (p + 1) a c os L (x : Int) _ (by omega) (by have := hBt.below.size; omega) hrL hS HT hRd).mono ?_
        clear HT
        rintro e V5 ⟨⟨o, rfl, ho⟩, hRd, hb5⟩
        have hBt := hBt.trans hb5
        clear hb5
        go_wp2_with fail
        refine hK.out _ _ (by rw [hBt.cell (by simp; omega) (by simp; omega)]; exact s3) (fun hHeld => ?_)
        clear hK K
        try simp only [Act.put]
        refine listH (l2 := #[true, true, true, true, true, false, false]) (by kernel_rfl) ?_
        refine wpAnyH_ready (rs := [5]) (by kernel_rfl) (by simp) ?_
        refine AllReadyH.cons (o := _) rfl (fun K hK => ?_) AllReadyH.nil
        refine st_alloc30 _ 5 ?_
        intro q5 V9 hq5 hb9 R5
        have lo5 : W0.heap.size ≤ q5 := by have := hBt.below.size; rw [hq5]; exact this
        have hBt := hBt.next (by have := hBt.below.size; omega) hb9
        have hRd := hRd.but hb9 (by have := hBt.below.size; have := hb9.size; omega)
        clear hq5 hb9
        refine hK.out _ _ (by rw [hBt.cell (by simp; omega) (by simp; omega)]; exact s3) (fun hHeld => ?_)
        clear hK K
        simp only [Act.put, List.setIfInBounds_toArray, List.set_cons_succ, List.set_cons_zero]
        refine listH (l2 := #[true, true, true, true, true, true, false]) (by kernel_rfl) ?_
        refine wpAnyH_ready (rs := [6]) (by kernel_rfl) (by simp) ?_
        refine AllReadyH.cons (o := _) rfl (fun K hK => ?_) AllReadyH.nil
        refine st_store30 _ 5 10 q5 0 o 7 _ rfl rfl R5 (by omega) ⟨⟨0, 0, ⟨#[]⟩, 0, ⟨#[]⟩, 0, ⟨#[]⟩⟩, rfl, rfl, rfl, rfl, rfl, rfl, rfl⟩ ?_
        intro F hbF hrF
        have hBt := hBt.both_ hbF lo5 (by omega)
        have hRd := hRd.both_ hbF (by omega)
        refine hK.out _ _ (by rw [hBt.cell (by simp; omega) (by simp; omega)]; exact s3) (fun hHeld => ?_)
        clear hK K
        refine listH (l2 := #[true, true, true, true, true, true, true]) (by kernel_rfl) ?_
        refine wpAnyH_done (by kernel_rfl) ?_ _
        go_wp2_with fail
        go_meet
        exact ⟨q5, o, rfl, lo5, ho, opAt_of hrF, ⟨_, hrF⟩, hRd, hBt⟩
      · refine st_alloc30 _ 5 ?_
        intro q5 V9 hq5 hb9 R5
        have lo5 : W0.heap.size ≤ q5 := by have := hBt.below.size; rw [hq5]; exact this
        have hBt := hBt.next (by have := hBt.below.size; omega) hb9
        have hRd := hRd.but hb9 (by have := hBt.below.size; have := hb9.size; omega)
        clear hq5 hb9
        refine hK.out _ _ (by rw [hBt.cell (by simp; omega) (by simp; omega)]; exact s3) (fun hHeld => ?_)
        clear hK K
        simp only [Act.put, List.setIfInBounds_toArray, List.set_cons_succ, List.set_cons_zero]
        refine listH (l2 := #[true, true, true, true, false, true, false]) (by kernel_rfl) ?_
        refine wpAnyH_ready (rs := [4]) (by kernel_rfl) (by simp) ?_
        refine AllReadyH.cons (o := _) rfl (fun K hK => ?_) AllReadyH.nil
        go_simp
        have HT := ((HO.out.blocks_ fun i h1 h2 => hBt.block i (by omega) (by omega)).wide (Nat.le_refl _) (Nat.le_trans (by omega : w.heap.size ≤ W0.heap.size) hBt.below.size) : ObjsAt _ L _ a 32 os)
        refine (op_any rb (p + 1) a c os L (x : Int) _ (by omega) (by have := hBt.below.size; omega) hrL hS HT hRd).mono ?_
        clear HT
        rintro e V5 ⟨⟨o, rfl, ho⟩, hRd, hb5⟩
        have hBt := hBt.trans hb5
        have R5 := R5.of_block (hb5.block q5 (by omega) R5.lt)
        clear hb5
        go_wp2_with fail
        refine hK.out _ _ (by rw [hBt.cell (by simp; omega) (by simp; omega)]; exact s3) (fun hHeld => ?_)
        clear hK K
        try simp only [Act.put]
        refine listH (l2 := #[true, true, true, true, true, true, false]) (by kernel_rfl) ?_
        refine wpAnyH_ready (rs := [6]) (by kernel_rfl) (by simp) ?_
        refine AllReadyH.cons (o := _) rfl (fun K hK => ?_) AllReadyH.nil
        refine st_store30 _ 5 10 q5 0 o 7 _ rfl rfl R5 (by omega) ⟨⟨0, 0, ⟨#[]⟩, 0, ⟨#[]⟩, 0, ⟨#[]⟩⟩, rfl, rfl, rfl, rfl, rfl, rfl, rfl⟩ ?_
        intro F hbF hrF
        have hBt := hBt.both_ hbF lo5 (by omega)
        have hRd := hRd.both_ hbF (by omega)
        refine hK.out _ _ (by rw [hBt.cell (by simp; omega) (by simp; omega)]; exact s3) (fun hHeld => ?_)
        clear hK K
        refine listH (l2 := #[true, true, true, true, true, true, true]) (by kernel_rfl) ?_
        refine wpAnyH_done (by kernel_rfl) ?_ _
        go_wp2_with fail
        go_meet
        exact ⟨q5, o, rfl, lo5, ho, opAt_of hrF, ⟨_, hrF⟩, hRd, hBt⟩
    · refine st_alloc30 _ 5 ?_
      intro q5 V9 hq5 hb9 R5
      have lo5 : W0.heap.size ≤ q5 := by have := hBt.below.size; rw [hq5]; exact this
      have hBt := hBt.next (by have := hBt.below.size; omega) hb9
      have hRd := hRd.but hb9 (by have := hBt.below.size; have := hb9.size; omega)
      clear hq5 hb9
      refine hK.out _ _ (by rw [hBt.cell (by simp; omega) (by simp; omega)]; exact s3) (fun hHeld => ?_)
      clear hK K
      simp only [Act.put, List.setIfInBounds_toArray, List.set_cons_succ, List.set_cons_zero]
      refine listH (l2 := #[true, true, true, false, false, true, false]) (by kernel_rfl) ?_
      refine wpAnyH_ready (rs := [3]) (by kernel_rfl) (by simp) ?_
      refine AllReadyH.cons (o := _) rfl (fun K hK => ?_) AllReadyH.nil
      go_simp
      refine (pick_to rb p 4 _ (by omega) (by omega) (by omega) hRd).mono ?_
      rintro e V3 ⟨⟨x, rfl, hx⟩, hRd, hb3⟩
      have hBt := hBt.trans hb3
      have R5 := R5.of_block (hb3.block q5 (by omega) R5.lt)
      clear hb3
      go_wp2_with fail
      refine hK.out _ _ (by rw [hBt.cell (by simp; omega) (by simp; omega)]; exact s3) (fun hHeld => ?_)
      clear hK K
      try simp only [Act.put]
      refine listH (l2 := #[true, true, true, true, false, true, false]) (by kernel_rfl) ?_
      refine wpAnyH_ready (rs := [4]) (by kernel_rfl) (by simp) ?_
      refine AllReadyH.cons (o := _) rfl (fun K hK => ?_) AllReadyH.nil
      go_simp
      have HT := ((HO.out.blocks_ fun i h1 h2 => hBt.block i (by omega) (by omega)).wide (Nat.le_refl _) (Nat.le_trans (by omega : w.heap.size ≤ W0.heap.size) hBt.below.size) : ObjsAt _ L _ a 32 os)
      refine (op_any rb (p + 1) a c os L (x : Int) _ (by omega) (by have := hBt.below.size; omega) hrL hS HT hRd).mono ?_
      clear HT
      rintro e V5 ⟨⟨o, rfl, ho⟩, hRd, hb5⟩
      have hBt := hBt.trans hb5
      have R5 := R5.of_block (hb5.block q5 (by omega) R5.lt)
      clear hb5
      go_wp2_with fail
      refine hK.out _ _ (by rw [hBt.cell (by simp; omega) (by simp; omega)]; exact s3) (fun hHeld => ?_)
      clear hK K
      try simp only [Act.put]
      refine listH (l2 := #[true, true, true, true, true, true, false]) (by kernel_rfl) ?_
      refine wpAnyH_ready (rs := [6]) (by kernel_rfl) (by simp) ?_
      refine AllReadyH.cons (o := _) rfl (fun K hK => ?_) AllReadyH.nil
      refine st_store30 _ 5 10 q5 0 o 7 _ rfl rfl R5 (by omega) ⟨⟨0, 0, ⟨#[]⟩, 0, ⟨#[]⟩, 0, ⟨#[]⟩⟩, rfl, rfl, rfl, rfl, rfl, rfl, rfl⟩ ?_
      intro F hbF hrF
      have hBt := hBt.both_ hbF lo5 (by omega)
      have hRd := hRd.both_ hbF (by omega)
      refine hK.out _ _ (by rw [hBt.cell (by simp; omega) (by simp; omega)]; exact s3) (fun hHeld => ?_)
      clear hK K
      refine listH (l2 := #[true, true, true, true, true, true, true]) (by kernel_rfl) ?_
      refine wpAnyH_done (by kernel_rfl) ?_ _
      go_wp2_with fail
      go_meet
      exact ⟨q5, o, rfl, lo5, ho, opAt_of hrF, ⟨_, hrF⟩, hRd, hBt⟩
  obtain ⟨q5, o, rfl, lo5, ho, ha5, hr5, hrd5, hbt5⟩ := hcut
  have hr0 : rb < W0.heap.size := by omega
  have HB5 : Hid (OB W0 wc rb (p + 10) q5 o) := ⟨hbt5, hrd5, ha5, hr5, lo5, by have := ho.1; have := ho.2.1; have := ho.2.2; omega⟩
  clear ha5 hr5 hrd5 hbt5 hBt hRd s3 HO
  rename World => W5
  go_wp2_with fail
  refine (pick_to rb (p + 10) 48 _ (by omega) (by omega) (by omega) HB5.out.rd).mono ?_
  rintro e W6 ⟨⟨d, rfl, hd⟩, hr6, hb6⟩
  have HB6 : Hid (OB W0 W6 rb (p + 11) q5 o) := HB5.out.next hr0 hb6 hr6
  have hz6 : W0.heap.size ≤ W6.heap.size := HB6.out.but.below.size
  have hq5 : q5 < W6.heap.size := by obtain ⟨f, hf⟩ := HB6.out.row; exact hf.lt
  clear HB5 hr6 hb6 ho
  go_upto_block 0 with fail
  go_cut [] (fun wx => ∃ o', OB W0 wx rb (p + 12) q5 o')
  case first =>
    by_cases d0 : d = 0
    · subst d0
      go_wp2_with fail
      have hal : Below W6.heap.size W6 (W6.alloc (Obj.cells #[.int .i64 0, .int .i64 6] 3)) := (Below.refl _ _).alloc (Nat.le_refl _) _
      have H7 := HB6.out.next hr0 (But.of_below (by omega) hal) (HB6.out.rd.but hal (by omega))
      refine (num_to (fun _ => True) rb (p + 11) W6.heap.size 2 2 _ (by omega) (by omega) (by omega) (by omega) H7.rd ?_).mono ?_
      · intro i hi
        match i, hi with
        | 0, _ => exact ⟨0, by simp [go_sem], trivial⟩
        | 1, _ => exact ⟨6, by simp [go_sem], trivial⟩
      rintro e W7 ⟨⟨z, rfl, _⟩, hr7, hb7⟩
      have HB7 : Hid (OB W0 W7 rb (p + 11 + 1) q5 o) := H7.next hr0 hb7 hr7
      obtain ⟨f7, hf7⟩ := HB7.out.row
      obtain ⟨e0, e1, e2, e3, e4, e5, e6⟩ := HB7.out.at_
      have y0 := hf7.frozen 0
      have hl7 := hf7.lt
      clear hf7 H7 hb7 hr7 hal
      go_wp2_with fail
      go_meet
      exact ⟨_, HB7.out.put hr0 0 (.int .i64 z) { o with kind := z } ⟨by simp [go_sem, e0], by simp [go_sem, e1], by simp [go_sem, e2], by simp [go_sem, e3], by simp [go_sem, e4], by simp [go_sem, e5], by simp [go_sem, e6]⟩ HB7.out.b⟩
    by_cases d1 : d = 1
    · subst d1
      go_wp2_with fail
      have hal : Below W6.heap.size W6 (W6.alloc (Obj.cells #[.int .i64 0, .int .i64 32, .int .i64 (-1)] 3)) := (Below.refl _ _).alloc (Nat.le_refl _) _
      have H7 := HB6.out.next hr0 (But.of_below (by omega) hal) (HB6.out.rd.but hal (by omega))
      refine (num_to (fun _ => True) rb (p + 11) W6.heap.size 3 3 _ (by omega) (by omega) (by omega) (by omega) H7.rd ?_).mono ?_
      · intro i hi
        match i, hi with
        | 0, _ => exact ⟨0, by simp [go_sem], trivial⟩
        | 1, _ => exact ⟨32, by simp [go_sem], trivial⟩
        | 2, _ => exact ⟨-1, by simp [go_sem], trivial⟩
      rintro e W7 ⟨⟨z, rfl, _⟩, hr7, hb7⟩
      have HB7 : Hid (OB W0 W7 rb (p + 11 + 1) q5 o) := H7.next hr0 hb7 hr7
      obtain ⟨f7, hf7⟩ := HB7.out.row
      obtain ⟨e0, e1, e2, e3, e4, e5, e6⟩ := HB7.out.at_
      have y0 := hf7.frozen 5
      have hl7 := hf7.lt
      clear hf7 H7 hb7 hr7 hal
      go_wp2_with fail
      go_meet
      exact ⟨_, HB7.out.put hr0 5 (.int .i64 z) { o with id := z } ⟨by simp [go_sem, e0], by simp [go_sem, e1], by simp [go_sem, e2], by simp [go_sem, e3], by simp [go_sem, e4], by simp [go_sem, e5], by simp [go_sem, e6]⟩ HB7.out.b⟩
    by_cases d2 : d = 2
    · subst d2
      go_wp2_with fail
      have hal : Below W6.heap.size W6 (W6.alloc (Obj.cells #[.string ⟨#[]⟩, .string ⟨#[65]⟩, .string ⟨#[97, 98, 99, 100, 101]⟩] 9)) := (Below.refl _ _).alloc (Nat.le_refl _) _
      have H7 := HB6.out.next hr0 (But.of_below (by omega) hal) (HB6.out.rd.but hal (by omega))
      refine (of_to rb (p + 11) W6.heap.size 3 3 5 _ (by omega) (by omega) (by omega) (by omega) H7.rd ?_).mono ?_
      · intro i hi
        match i, hi with
        | 0, _ => exact ⟨⟨#[]⟩, by simp [go_sem], by decide⟩
        | 1, _ => exact ⟨⟨#[65]⟩, by simp [go_sem], by decide⟩
        | 2, _ => exact ⟨⟨#[97, 98, 99, 100, 101]⟩, by simp [go_sem], by decide⟩
      rintro e W7 ⟨⟨z, rfl, hz⟩, hr7, hb7⟩
      have HB7 : Hid (OB W0 W7 rb (p + 11 + 1) q5 o) := H7.next hr0 hb7 hr7
      obtain ⟨f7, hf7⟩ := HB7.out.row
      obtain ⟨e0, e1, e2, e3, e4, e5, e6⟩ := HB7.out.at_
      have y0 := hf7.frozen 2
      have hl7 := hf7.lt
      clear hf7 H7 hb7 hr7 hal
      go_wp2_with fail
      go_meet
      exact ⟨_, HB7.out.put hr0 2 (.string z) { o with name := z } ⟨by simp [go_sem, e0], by simp [go_sem, e1], by simp [go_sem, e2], by simp [go_sem, e3], by simp [go_sem, e4], by simp [go_sem, e5], by simp [go_sem, e6]⟩ ⟨hz, HB7.out.b.2⟩⟩
    by_cases d3 : d = 3
    · subst d3
      obtain ⟨f7, hf7⟩ := HB6.out.row
      obtain ⟨e0, e1, e2, e3, e4, e5, e6⟩ := HB6.out.at_
      have y0 := hf7.frozen 6
      have hl7 := hf7.lt
      clear hf7
      go_wp2_with fail
      go_meet
      exact ⟨_, (HB6.out.put hr0 6 (.string ⟨#[65]⟩) { o with text := ⟨#[65]⟩ } ⟨by simp [go_sem, e0], by simp [go_sem, e1], by simp [go_sem, e2], by simp [go_sem, e3], by simp [go_sem, e4], by simp [go_sem, e5], by simp [go_sem, e6]⟩ ⟨HB6.out.b.1, HB6.out.b.2.1, show (⟨#[65]⟩ : ByteArray).size ≤ 5 by decide⟩).on (by omega)⟩
    · have t0 : ((d : Int) == 0) = false := by simp; omega
      have t1 : ((d : Int) == 1) = false := by simp; omega
      have t2 : ((d : Int) == 2) = false := by simp; omega
      have t3 : ((d : Int) == 3) = false := by simp; omega
      go_wp2_with fail
      go_meet
      exact ⟨o, HB6.out.on (by omega)⟩
  obtain ⟨o9, h9⟩ := hcut
  have R4w := R4.out.of_block (h9.but.block (w.heap.size + 1) (by omega) R4.out.lt)
  have g0 : wc.cell? ⟨w.heap.size + 1, 0, none⟩ = some (.int .i64 0) := by rw [R4w.cell (by omega)]; rfl
  have z0 := R4w.frozen 0
  have g1 : wc.cell? ⟨w.heap.size + 1, 1, none⟩ = some (.int .i64 0) := by rw [R4w.cell (by omega)]; rfl
  have z1 := R4w.frozen 1
  have g2 : wc.cell? ⟨w.heap.size + 1, 2, none⟩ = some (.string ⟨#[]⟩) := by rw [R4w.cell (by omega)]; rfl
  have z2 := R4w.frozen 2
  have g3 : wc.cell? ⟨w.heap.size + 1, 3, none⟩ = some (.int .i64 0) := by rw [R4w.cell (by omega)]; rfl
  have z3 := R4w.frozen 3
  have g4 : wc.cell? ⟨w.heap.size + 1, 4, none⟩ = some (.string ⟨#[]⟩) := by rw [R4w.cell (by omega)]; rfl
  have z4 := R4w.frozen 4
  have g5 : wc.cell? ⟨w.heap.size + 1, 5, none⟩ = some (.int .i64 0) := by rw [R4w.cell (by omega)]; rfl
  have z5 := R4w.frozen 5
  have g6 : wc.cell? ⟨w.heap.size + 1, 6, none⟩ = some (.string ⟨#[]⟩) := by rw [R4w.cell (by omega)]; rfl
  have z6 := R4w.frozen 6
  have hl4 := R4w.lt
  have H9 : Hid (OB W0 wc rb (p + 12) q5 o9) := h9
  obtain ⟨e0, e1, e2, e3, e4, e5, e6⟩ := h9.at_
  simp only [Nat.zero_add] at e1 e2 e3 e4 e5 e6
  have HA0 : Hid (But rb w W0) := But.of_below hrw hA0
  clear R4 R4w h9 HB6 hA0
  go_wp2_with fail
  refine bodyPost_ret (v := .agg o9.val) (by simp [results, Tryz.results62, go_sem, LOp.val, g0, g1, g2, g3, g4, g5, g6]) rfl ?_
  have hs : But (w.heap.size + 1) wc _ := ((((((((But.refl (w.heap.size + 1) wc).set 0 (.int .i64 o9.kind)).set 1 (.int .i64 o9.dir)).set 2 (.string o9.name)).set 3 (.int .i64 o9.dir2)).set 4 (.string o9.name2)).set 5 (.int .i64 o9.id)).set 6 (.string o9.text))
  exact ⟨⟨o9, rfl, H9.out.b⟩, (H9.out.rd.on_ (by omega)).both_ hs (by omega), (HA0.out.trans H9.out.but).both_ hs (by omega) (by omega)⟩
end Go.Proofs.YtnolbfijcnldjaaGreatDoor

/- A copy of objects, and of names, of the call's own. -/
namespace Go.Proofs.YtnolbfijcnldjaaGreatDoor
open Go.RowKit

theorem OwnT.base' {w : World} {B B' b c : Nat} {os : List LObj} {vs : Nat → Value} (h : OwnT w B b c os vs) (hB : B' ≤ B) : OwnT w B' b c os vs :=
  ⟨by have := h.lo; omega, h.row, fun i o ho => by
    obtain ⟨h1, h2, h3, h4, h5, h6, h7⟩ := h.at_ i o ho
    refine ⟨h1, h2, h3, h4, h5, ⟨h6.1, ?_⟩, h7⟩
    rcases h6.2 with h | ⟨g, cap, cur, q1, q2, q3⟩
    · exact .inl h
    · exact .inr ⟨g, cap, cur, q1, by omega, q3⟩, h.apart⟩

/-- What an append of names onto nothing leaves. -/
def NewEnts (w w' : World) (B : Nat) (v : Value) (es : List LEnt) : Prop := OwnEnts w' B v es ∧ w.grownBy w' none ∧ (v.ownBlock = none ∨ v.ownBlock = some w.heap.size)
theorem run_app_new (w : World) (ty : TypeId) (B m c : Nat) (ka : Option Addr) (es : List LEnt) (hm : m = es.length) (hB : B ≤ w.heap.size) (hbd : m ≤ 1048576)
    (hsrc : m ≠ 0 → ∃ ad, ka = some ad ∧ ∀ j u, (entCells es)[j]? = some u → w.cell? (ad.add j) = some u) :
    ∃ a' c' w', (Builtin.append_ #[36, 36] ty #[.slice none 0 0, .slice ka m c]).run Tryz.prog w = .ok (.slice a' m c') w' ∧ NewEnts w w' B (.slice a' m c') es := by
  obtain ⟨i0, hi, hz0, hz1, hz2⟩ := info_parts info47'
  by_cases h0 : m = 0
  · subst h0
    obtain rfl : es = [] := List.eq_nil_of_length_eq_zero hm.symm
    have hs : Src Tryz.prog i0.size 36 (.slice ka 0 c) 0 [] w := by
      cases ka with
      | none => exact Src.ofNil w Tryz.underlying36 c
      | some ad => exact Src.ofSlice w Tryz.underlying36 ad 0 c [] (by simp) (fun j u hu => by simp at hu) (fun u hu => by simp at hu)
    exact ⟨none, 0, w, run_append_nothing (P := Tryz.prog) w 36 36 ty 53 i0 Tryz.underlying36 hi none 0 0 (Nat.le_refl _) _ hs, OwnEnts.bare w B, World.grownBy.refl w none, .inl rfl⟩
  · obtain ⟨ad, rfl, hc⟩ := hsrc h0
    obtain ⟨v', w', hr, h2, h3, h4, h5⟩ := run_append_own_at (P := Tryz.prog) w B 36 ty 53 i0 _ 2 24 Tryz.underlying36 hi hz0 hz1 hz2 rfl (by decide) _ _ _ (OwnEnts.bare w B) ad m c (entCells es) (by rw [entCells_len, hm]) hc (entCells_one _) (by unfold maxLen; simp; omega) (by simp; omega) hB
    have h2' := h2
    rcases h2.2 with ⟨hv, _⟩ | ⟨g', cap', cur, rfl, hb, hg, _⟩
    · exact absurd (h4.1 hv).2 h0
    · have h5' : g' = w.heap.size := by simpa [Value.ownBlock] using h5
      simp only [List.length_nil, Nat.zero_add] at hr h2'
      refine ⟨_, _, _, hr, ?_, by simpa [Value.ownBlock] using h3, .inr (by simp [Value.ownBlock, h5'])⟩
      unfold OwnEnts
      rw [← hm]
      simpa [entCells] using h2'
theorem wpList_app_new (w : World) {ops : Array Oper} {rest : List Oper} {o : Oper} {a : Act} {Q : Exit → Act → World → Prop} (hgd : o.guard = none) (s x : Operand)
    (ho : o.op = .call { callee := .builtin .append, args := #[s, x], argTypes := #[36, 36] }) (B m c : Nat) (ka : Option Addr) (es : List LEnt) (hs : a.eval s = .slice none 0 0) (hx : a.eval x = .slice ka m c) (hm : m = es.length) (hB : B ≤ w.heap.size) (hbd : m ≤ 1048576)
    (hsrc : m ≠ 0 → ∃ ad, ka = some ad ∧ ∀ j u, (entCells es)[j]? = some u → w.cell? (ad.add j) = some u)
    (h : ∀ a' c' w', NewEnts w w' B (.slice a' m c') es → wpList Tryz.prog ops Q rest (a.put o.dst (.slice a' m c')) w') : wpList Tryz.prog ops Q (o :: rest) a w :=
  wpList_plain hgd fun _ hK => by
    obtain ⟨a', c', w', hr, h2⟩ := run_app_new w o.type B m c ka es hm hB hbd hsrc
    unfold Oper.wp execOp
    simp only [ho, resolve, invoke, builtin, Sem.run_bind, Sem.run_pure, Result.andThen_ok, List.map_toArray, List.map_cons, List.map_nil, hs, hx, hr]
    exact hK _ _ (h a' c' w' h2)

theorem objCells_one (os : List LObj) (vs : Nat → Value) (h : ∀ i, (vs i).oneCell' = true) : ∀ k, ∀ u ∈ objCells os vs k, u.oneCell' = true
  | 0, u, hu => by simp [objCells] at hu
  | k + 1, u, hu => by
    simp only [objCells, List.mem_append] at hu
    rcases hu with hu | hu
    · exact objCells_one os vs h k u hu
    · cases ho : os[k]? with
      | none => simp [ho] at hu
      | some o =>
        simp [ho] at hu
        rcases hu with rfl | rfl | rfl | rfl
        · rfl
        · rfl
        · rfl
        · exact h k
theorem objCells_get (os : List LObj) (vs : Nat → Value) (k j : Nat) (u : Value) (hk : k ≤ os.length) (h : (objCells os vs k)[j]? = some u) : ∃ i o, os[i]? = some o ∧ i < k ∧ ((j = i * 4 ∧ u = .int .i64 o.kind) ∨ (j = i * 4 + 1 ∧ u = .int .i64 o.ver) ∨ (j = i * 4 + 2 ∧ u = .string o.text) ∨ (j = i * 4 + 3 ∧ u = vs i)) := by
  have hl := (List.getElem?_eq_some_iff.1 h).1
  rw [objCells_len os vs k hk] at hl
  have hi : j / 4 < k := by omega
  have ho : os[j / 4]? = some (os[j / 4]'(by omega)) := by simp [show j / 4 < os.length by omega]
  obtain ⟨h0, h1, h2, h3⟩ := objCells_at os vs k hk (j / 4) _ hi ho
  refine ⟨j / 4, _, ho, hi, ?_⟩
  have hr : j % 4 = 0 ∨ j % 4 = 1 ∨ j % 4 = 2 ∨ j % 4 = 3 := by omega
  rcases hr with hr | hr | hr | hr
  · have e : j = j / 4 * 4 := by omega
    rw [← e, h] at h0
    exact .inl ⟨e, by simpa using h0⟩
  · have e : j = j / 4 * 4 + 1 := by omega
    rw [← e, h] at h1
    exact .inr (.inl ⟨e, by simpa using h1⟩)
  · have e : j = j / 4 * 4 + 2 := by omega
    rw [← e, h] at h2
    exact .inr (.inr (.inl ⟨e, by simpa using h2⟩))
  · have e : j = j / 4 * 4 + 3 := by omega
    rw [← e, h] at h3
    exact .inr (.inr (.inr ⟨e, by simpa using h3⟩))

/-- What the names of the objects are, as values. -/
structure KidsV (w : World) (L U : Nat) (os : List LObj) (ks : Nat → Value) : Prop where
  one : ∀ i, (ks i).oneCell' = true
  at_ : ∀ i o, os[i]? = some o → o.text.size ≤ maxLen ∧ ∃ ka kc, ks i = .slice ka o.kids.length kc ∧ EntsAt w L U ka o.kids.length o.kids
theorem ks_of {w : World} {L U n : Nat} {a : Option Addr} {os : List LObj} (H : ObjsAt w L U a n os) (hn : n ≠ 0) : ∃ b off ks, a = some ⟨b, off, none⟩ ∧ L ≤ b ∧ b < U ∧ (∀ j u, (objCells os ks n)[j]? = some u → w.cell? ((⟨b, off, none⟩ : Addr).add j) = some u) ∧ KidsV w L U os ks := by
  obtain ⟨b, off, ha, hL, hU, hc⟩ := H.at_ hn
  obtain ⟨l, hl, hp⟩ := list_of (n := n) (p := fun i (v : Value) => ∃ o ka kc, os[i]? = some o ∧ v = .slice ka o.kids.length kc ∧ o.text.size ≤ maxLen ∧ w.cell? ⟨b, off + i * 4, none⟩ = some (.int .i64 o.kind) ∧ w.cell? ⟨b, off + i * 4 + 1, none⟩ = some (.int .i64 o.ver) ∧ w.cell? ⟨b, off + i * 4 + 2, none⟩ = some (.string o.text) ∧ w.cell? ⟨b, off + i * 4 + 3, none⟩ = some v ∧ EntsAt w L U ka o.kids.length o.kids) (fun i hi => by
    obtain ⟨o, ka, kn, kc, q1, q2, q3, q4, q5, q6, q7⟩ := hc i hi
    have hk := q7.len
    subst hk
    exact ⟨_, o, ka, kc, q1, rfl, q2, q3, q4, q5, q6, q7⟩)
  have hlen := H.len
  refine ⟨b, off, fun i => (l[i]?).getD (.slice none 0 0), ha, hL, hU, fun j u hu => ?_, fun i => ?_, fun i o ho => ?_⟩
  · obtain ⟨i, o, ho, hi, h⟩ := objCells_get os _ n j u (by omega) hu
    obtain ⟨v, hv, o', ka, kc, q1, q2, q3, q4, q5, q6, q7, q8⟩ := hp i hi
    rw [ho] at q1
    cases q1
    have hadd : (⟨b, off, none⟩ : Addr).add j = ⟨b, off + j, none⟩ := by unfold Addr.add; split <;> simp_all
    rw [hadd]
    rcases h with ⟨rfl, rfl⟩ | ⟨rfl, rfl⟩ | ⟨rfl, rfl⟩ | ⟨rfl, rfl⟩
    · exact q4
    · exact q5
    · exact q6
    · simpa [hv, Nat.add_assoc] using q7
  · by_cases hi : i < n
    · obtain ⟨v, hv, o', ka, kc, q1, rfl, _⟩ := hp i hi
      simp [hv, Value.oneCell']
    · have : l[i]? = none := by simp [hl]; omega
      simp [this, Value.oneCell']
  · have hi : i < n := by rw [hlen]; exact (List.getElem?_eq_some_iff.1 ho).1
    obtain ⟨v, hv, o', ka, kc, q1, rfl, q3, q4, q5, q6, q7, q8⟩ := hp i hi
    rw [ho] at q1
    cases q1
    exact ⟨q3, ka, kc, by simp [hv], q8⟩

def CloneEnd (w : World) (n : Nat) (xs : List Value) (e : Ending) (w' : World) : Prop := (∃ g cap, e = .returned (.slice (some ⟨g, 0, none⟩) n cap) ∧ w'.ownsRow w.heap.size 38 4 (.slice (some ⟨g, 0, none⟩) n cap) n xs) ∧ Below w.heap.size w w'
set_option maxRecDepth 100000 in
theorem copy_objs (b off n c : Nat) (os : List LObj) (ks : Nat → Value) (w : World) (hn : n = os.length) (h0 : 0 < n) (hbd : n ≤ 1048576) (hk1 : ∀ i, (ks i).oneCell' = true) (hc : ∀ j u, (objCells os ks n)[j]? = some u → w.cell? ((⟨b, off, none⟩ : Addr).add j) = some u) :
    Calls Tryz.prog 138 #[.slice (some ⟨b, off, none⟩) n c] w fun e w' => CloneEnd w n (objCells os ks n) e w' := by
  obtain ⟨i0, hi, hq0, hq1, hq2⟩ := info_parts info34'
  have HL : Hid ((objCells os ks n).length = n * 4) := objCells_len os ks n (by omega)
  have H1 : Hid (∀ u ∈ objCells os ks n, u.oneCell' = true) := objCells_one os ks hk1 n
  have HC : Hid (∀ j u, (objCells os ks n)[j]? = some u → w.cell? ((⟨b, off, none⟩ : Addr).add j) = some u) := hc
  clear hc hn
  go_enter Tryz.func138, Tryz.ntmps138
  go_wp2_with (first
    | (at_builtin; refine wpList_append_lies _ rfl (.const (.slice none 0 0)) (.tmp 3) 23 rfl w.heap.size 38 i0 _ 4 56 Tryz.underlying23 hi hq0 hq1 hq2 rfl (by decide) _ 0 [] rfl (World.ownsRow_nil _ _ _ _) ⟨b, off, none⟩ n c (objCells os ks n) rfl HL.out ?c1 H1.out h0 ?c4 ?c5 ?c6 _ rfl ?_)
    | go_in)
  case c1 => exact fun j u hu => HC.out j u hu
  case c4 => unfold maxLen; omega
  case c5 => omega
  case c6 => simp
  intro g cap w1 hown hgrow hat hlt
  have hbel : Below w.heap.size w w1 := below_grown (Below.refl _ _) hgrow (fun k hk => by simp [Value.ownBlock] at hk) (Nat.le_refl _)
  have hown' : Hid (w1.ownsRow w.heap.size 38 4 (.slice (some ⟨g, 0, none⟩) n cap) n (objCells os ks n)) := by show World.ownsRow _ _ _ _ _ _ _; simpa using hown
  clear hown hgrow hat hlt
  go_wp2_with fail
  go_ret
  exact ⟨⟨g, cap, by simp, hown'.out⟩, hbel⟩
theorem copy_ents (B : Nat) (ka : Option Addr) (m c : Nat) (es : List LEnt) (L U : Nat) (w : World) (hB : B ≤ w.heap.size) (hbd : m ≤ 1048576) (H : EntsAt w L U ka m es) :
    Calls Tryz.prog 139 #[.slice ka m c] w fun e w' => ∃ a' c', e = .returned (.slice a' m c') ∧ NewEnts w w' B (.slice a' m c') es := by
  have HE : Hid (EntsAt w L U ka m es) := H
  have hm := H.len
  have HM : Hid (m = es.length) := hm
  clear H hm
  go_enter Tryz.func139, Tryz.ntmps139
  go_wp2_with (first
    | (at_builtin; refine wpList_app_new _ rfl (.const (.slice none 0 0)) (.tmp 3) rfl B _ _ _ es rfl rfl HM.out hB hbd ?c2 ?_)
    | go_in)
  case c2 =>
    intro hne
    obtain ⟨kb, koff, rfl, _, _, hkc⟩ := HE.out.at_ hne
    exact ⟨_, rfl, ents_cells HM.out hkc⟩
  intro a' c' w2 hnew
  have HN : Hid (NewEnts w w2 B (.slice a' m c') es) := hnew
  clear hnew
  go_wp2_with fail
  go_ret
  exact ⟨a', c', rfl, HN.out⟩
end Go.Proofs.YtnolbfijcnldjaaGreatDoor

/- Rows of names that are spliced: copy of elements of two cells; the plain lists. -/
namespace Go.Proofs.YtnolbfijcnldjaaGreatDoor
open Go.RowKit

def splice (l : List Value) (o : Nat) (cs : List Value) : List Value := l.take o ++ cs ++ l.drop (o + cs.length)
theorem splice_len (l : List Value) (o : Nat) (cs : List Value) (h : o + cs.length ≤ l.length) : (splice l o cs).length = l.length := by
  simp [splice]; omega
theorem splice_get (l : List Value) (o : Nat) (cs : List Value) (h : o + cs.length ≤ l.length) (j : Nat) : (splice l o cs)[j]? = if j < o then l[j]? else if j < o + cs.length then cs[j - o]? else l[j]? := by
  have h1 : min o l.length = o := by omega
  unfold splice
  by_cases ha : j < o
  · rw [List.append_assoc, List.getElem?_append_left (by simp; omega), if_pos ha, List.getElem?_take, if_pos ha]
  · rw [if_neg ha]
    by_cases hb : j < o + cs.length
    · rw [if_pos hb, List.append_assoc, List.getElem?_append_right (by simp; omega), List.getElem?_append_left (by simp; omega)]
      simp [h1]
    · rw [if_neg hb, List.getElem?_append_right (by simp; omega), List.getElem?_drop]
      congr 1
      simp [h1]
      omega
/-- Shifted up by two, and two put in. -/
theorem splice_shift (l E : List Value) (p : Nat) (u v : Value) (hp : p ≤ E.length) (hl : E.length + 2 ≤ l.length) (hE : l.take E.length = E) :
    (splice (splice l (p + 2) (E.drop p)) p [u, v]).take (E.length + 2) = E.take p ++ [u, v] ++ E.drop p := by
  have hget : ∀ j, j < E.length → l[j]? = E[j]? := fun j hj => by rw [← hE]; simp [hj]
  apply List.ext_getElem?
  intro j
  rw [List.getElem?_take]
  by_cases h0 : j < E.length + 2
  · rw [if_pos h0, splice_get _ _ _ (by rw [splice_len _ _ _ (by simp; omega)]; simp; omega), splice_get _ _ _ (by simp; omega)]
    by_cases h1 : j < p
    · rw [if_pos h1, if_pos (by omega), List.append_assoc, List.getElem?_append_left (by simp; omega), List.getElem?_take, if_pos h1]
      exact hget j (by omega)
    · rw [if_neg h1]
      by_cases h2 : j < p + 2
      · rw [if_pos (by simpa using h2), List.append_assoc, List.getElem?_append_right (by simp; omega), List.getElem?_append_left (by simp; omega)]
        simp [show min p E.length = p by omega]
      · rw [if_neg (by simpa using h2), if_neg h2, if_pos (by simp; omega), List.getElem?_append_right (by simp; omega)]
        congr 1
        simp [show min p E.length = p by omega]
  · rw [if_neg h0]
    symm
    apply List.getElem?_eq_none
    simp; omega
/-- A new row: what was ahead, two, what was behind. -/
theorem splice_new (l E : List Value) (p : Nat) (u v : Value) (hp : p ≤ E.length) (hl : E.length + 2 ≤ l.length) (hE : l.take p = E.take p) :
    (splice (splice l p [u, v]) (p + 2) (E.drop p)).take (E.length + 2) = E.take p ++ [u, v] ++ E.drop p := by
  have hget : ∀ j, j < p → l[j]? = E[j]? := fun j hj => by
    have h1 : (l.take p)[j]? = (E.take p)[j]? := by rw [hE]
    simpa [List.getElem?_take, hj] using h1
  apply List.ext_getElem?
  intro j
  rw [List.getElem?_take]
  by_cases h0 : j < E.length + 2
  · rw [if_pos h0, splice_get _ _ _ (by rw [splice_len _ _ _ (by simp; omega)]; simp; omega), splice_get _ _ _ (by simp; omega)]
    by_cases h1 : j < p
    · rw [if_pos (by omega), if_pos h1, List.append_assoc, List.getElem?_append_left (by simp; omega), List.getElem?_take, if_pos h1]
      exact hget j (by omega)
    · by_cases h2 : j < p + 2
      · rw [if_pos h2, if_neg h1, if_pos (by simpa using h2), List.append_assoc, List.getElem?_append_right (by simp; omega), List.getElem?_append_left (by simp; omega)]
        simp [show min p E.length = p by omega]
      · rw [if_neg h2, if_pos (by simp; omega), List.getElem?_append_right (by simp; omega)]
        congr 1
        simp [show min p E.length = p by omega]
  · rw [if_neg h0]
    symm
    apply List.getElem?_eq_none
    simp; omega

theorem entCells_take (es : List LEnt) (k : Nat) : (entCells es).take (k * 2) = entCells (es.take k) := by
  by_cases hk : k ≤ es.length
  · have e1 : entCells es = entCells (es.take k) ++ entCells (es.drop k) := by rw [← entCells_app, List.take_append_drop]
    rw [e1, List.take_left' (by rw [entCells_len]; simp; omega)]
  · rw [List.take_of_length_le (by rw [entCells_len]; omega), List.take_of_length_le (by omega)]
theorem entCells_drop (es : List LEnt) (k : Nat) : (entCells es).drop (k * 2) = entCells (es.drop k) := by
  by_cases hk : k ≤ es.length
  · have e1 : entCells es = entCells (es.take k) ++ entCells (es.drop k) := by rw [← entCells_app, List.take_append_drop]
    rw [e1, List.drop_left' (by rw [entCells_len]; simp; omega)]
  · rw [List.drop_of_length_le (by rw [entCells_len]; omega), List.drop_of_length_le (by omega)]
    rfl
theorem entCells_ins (es : List LEnt) (k : Nat) (x : LEnt) : (entCells es).take (k * 2) ++ [.string x.name, .int .i64 x.id] ++ (entCells es).drop (k * 2) = entCells (es.take k ++ [x] ++ es.drop k) := by
  rw [entCells_take, entCells_drop, entCells_app, entCells_app]
  simp [entCells]

theorem run_copy_row2 {P : Program} (w : World) (dT sT ty elem : TypeId) (g o dLen dCap : Nat) (a : Addr) (sLen sCap : Nat) (cur : Array Value) (t : TypeId) (cs : List Value)
    (hu : P.underlying dT = some (.slice elem)) (hs : (P.info? elem).map (·.size) = some 2)
    (hg : w.heap[g]? = some (.cells cur t (0, 0))) (hn : cs.length = Nat.min sLen dLen * 2)
    (hsrc : ∀ j v, cs[j]? = some v → w.cell? (a.add j) = some v) (hfit : o + cs.length ≤ cur.size) (h1 : ∀ v ∈ cs, v.oneCell' = true) :
    (Builtin.copy_ #[dT, sT] ty #[.slice (some ⟨g, o, none⟩) dLen dCap, .slice (some a) sLen sCap]).run P w =
      .ok (goInt (Nat.min sLen dLen)) (w.setRow g (splice cur.toList o cs).toArray) := by
  have hl := run_loadCells_list (P := P) w a cs hsrc
  have hst := run_storeCells_at P g o t cs 0 cur w hg (by simpa using hfit) h1
  cases hq : P.info? elem with
  | none => simp [hq] at hs
  | some i =>
    have hi : i.size = 2 := by simpa [hq] using hs
    simp [Builtin.copy_, run_underlying hu, Builtin.lenOf, Builtin.firstCells, sizeOf, typeInfo, hq, hi, ← hn, hl, hst, splice]
theorem wp_copy_run' {P : Program} (w : World) {o : Oper} {a : Act} {K : Act → World → Prop} {Q : Exit → Act → World → Prop} (d s : Operand) (t t' : TypeId)
    (ho : o.op = .call { callee := .builtin .copy, args := #[d, s], argTypes := #[t, t'] }) (v u : Value) (hd : a.eval d = v) (hs : a.eval s = u) {v' : Value} {w' : World}
    (hr : (Builtin.copy_ #[t, t'] o.type #[v, u]).run P w = .ok v' w') (h : K (a.put o.dst v') w') : o.wp P a w K Q := by
  unfold Oper.wp execOp
  simp only [ho, resolve, invoke, builtin, Sem.run_bind, Sem.run_pure, Result.andThen_ok, List.map_toArray, List.map_cons, List.map_nil, hd, hs, hr]
  exact h
theorem wpList_copy_run' {P : Program} (w : World) {ops : Array Oper} {rest : List Oper} {o : Oper} {a : Act} {Q : Exit → Act → World → Prop} (hgd : o.guard = none) (d s : Operand) (t t' : TypeId)
    (ho : o.op = .call { callee := .builtin .copy, args := #[d, s], argTypes := #[t, t'] }) (v u : Value) (hd : a.eval d = v) (hs : a.eval s = u) {v' : Value} {w' : World}
    (hr : (Builtin.copy_ #[t, t'] o.type #[v, u]).run P w = .ok v' w') (h : wpList P ops Q rest (a.put o.dst v') w') : wpList P ops Q (o :: rest) a w :=
  wpList_plain hgd fun _ hK => wp_copy_run' w d s t t' ho v u hd hs hr (hK _ _ h)

theorem setRow_grown {w0 w : World} {g : Nat} {c : Array Value} {row : Option Nat} (h : w0.grownBy w row) (hg : row = some g ∨ w0.heap.size ≤ g) : w0.grownBy (w.setRow g c) row :=
  ⟨h.os, h.tape, h.output, by simpa using h.size, fun k hk hne => by
    rw [setRow_other w g k c (by rcases hg with rfl | hg <;> intro e <;> subst e <;> simp_all <;> omega)]
    exact h.block k hk hne⟩

/-- A row of one's own, its block laid open. -/
theorem OwnEnts.open_ {w : World} {B g n cap : Nat} {es : List LEnt} (h : OwnEnts w B (.slice (some ⟨g, 0, none⟩) n cap) es) : ∃ cur, B ≤ g ∧ w.heap[g]? = some (.cells cur 53 (0, 0)) ∧ n = es.length ∧ n ≤ cap ∧ cap ≤ maxLen ∧ cur.size = cap * 2 ∧ cur.toList.take (n * 2) = entCells es := by
  rcases h.2 with ⟨h', _⟩ | ⟨g', cap', cur, h', hb, hg, hnc, hcm, hcs, htake⟩
  · simp at h'
  · simp only [Value.slice.injEq, Option.some.injEq, Addr.mk.injEq, and_true] at h'
    obtain ⟨rfl, rfl, rfl⟩ := h'
    exact ⟨cur, hb, hg, rfl, hnc, hcm, hcs, htake⟩
theorem OwnEnts.mk_ {w : World} {B g n cap : Nat} {es : List LEnt} {cur : Array Value} (hB : B ≤ g) (hg : w.heap[g]? = some (.cells cur 53 (0, 0))) (hn : n = es.length) (hnc : n ≤ cap) (hcm : cap ≤ maxLen) (hcs : cur.size = cap * 2) (ht : cur.toList.take (n * 2) = entCells es) : OwnEnts w B (.slice (some ⟨g, 0, none⟩) n cap) es := by
  subst hn
  exact ⟨by rw [entCells_len], .inr ⟨g, cap, cur, rfl, hB, hg, hnc, hcm, hcs, ht⟩⟩

/-! The place of a name. -/
def PlaceEnd (es : List LEnt) (name : ByteArray) (e : Ending) : Prop := ∃ (x : Nat) (b : Bool), e = .returned (.tuple #[.int .i64 x, .bool b]) ∧ x ≤ es.length ∧ Low es name x ∧ High es name x
theorem placeL_of {es : List LEnt} {name : ByteArray} {x : Nat} (hx : x ≤ es.length) (hl : Low es name x) (hh : High es name x) : placeL name es = x := by
  induction es generalizing x with
  | nil => simp at hx; subst hx; rfl
  | cons e r ih =>
    by_cases h0 : x = 0
    · subst h0
      have h := hh 0 (Nat.le_refl _) e rfl
      have hn : lessN name e = false := by
        rw [Bool.eq_false_iff]
        intro h1
        unfold lessN at h1
        rw [Go.ByteArray.toList_eq, Go.ByteArray.toList_eq] at h1
        exact h ((cmp_less _ _).2 h1)
      simp [placeL, hn]
    · obtain ⟨y, rfl⟩ : ∃ y, x = y + 1 := ⟨x - 1, by omega⟩
      have h := hl 0 (by omega) e rfl
      have hn : lessN name e = true := by
        unfold lessN
        rw [Go.ByteArray.toList_eq, Go.ByteArray.toList_eq]
        exact (cmp_less _ _).1 h
      have h2 := ih (x := y) (by simpa using hx) (fun i hi e' he => hl (i + 1) (by omega) e' (by simpa using he)) (fun i hi e' he => hh (i + 1) (by omega) e' (by simpa using he))
      simp only [placeL] at h2 ⊢
      simp [hn, h2]
theorem putL_of {es : List LEnt} {x : LEnt} {k : Nat} (hk : k ≤ es.length) (hl : Low es x.name k) (hh : High es x.name k) : putL x es = es.take k ++ [x] ++ es.drop k := by
  unfold putL; rw [placeL_of hk hl hh]
theorem less_self : ∀ a : List UInt8, Op.bytesLess a a = false
  | [] => rfl
  | a :: x => by
    have ih := less_self x
    have h : ¬ a < a := by rw [UInt8.lt_iff_toNat_lt]; omega
    simp [Op.bytesLess, ih, h]
/-- The name that is there is at its place. -/
theorem place_there {es : List LEnt} {name : ByteArray} {x k : Nat} {e : LEnt} (ha : Asc es) (hl : Low es name x) (hh : High es name x) (hk : es[k]? = some e) (hn : e.name = name) : x = k := by
  have hz : ¬ Lib.compareBytes (nm e) name.data.toList < 0 := by
    rw [cmp_less, ← hn]
    intro h
    exact absurd (show Op.bytesLess e.name.data.toList e.name.data.toList = true from h) (by rw [less_self]; simp)
  rcases Nat.lt_trichotomy x k with h | h | h
  · obtain ⟨y, hy⟩ : ∃ y, es[x]? = some y := ⟨es[x]'(by have := (List.getElem?_eq_some_iff.1 hk).1; omega), by simp⟩
    have h1 := ha x k y e h hy hk
    have h2 := hh x (Nat.le_refl _) y hy
    rw [cmp_less, ← hn] at h2
    exact absurd h1 h2
  · exact h
  · exact absurd (hl k h e hk) hz
theorem outL_of {es : List LEnt} {name : ByteArray} {k : Nat} {e : LEnt} (ha : Asc es) (hk : es[k]? = some e) (hn : e.name = name) : outL name es = es.take k ++ es.drop (k + 1) := by
  have hlt := (List.getElem?_eq_some_iff.1 hk).1
  have hne : ∀ i y, es[i]? = some y → i ≠ k → (y.name.toList == name.toList) = false := fun i y hy hik => by
    rw [Go.ByteArray.toList_eq, Go.ByteArray.toList_eq, ← hn]
    rcases Nat.lt_or_gt_of_ne hik with h | h
    · have h1 := ha i k y e h hy hk
      rw [beq_eq_false_iff_ne]
      intro h2
      rw [show nm y = nm e from h2, less_self] at h1
      cases h1
    · have h1 := ha k i e y h hk hy
      rw [beq_eq_false_iff_ne]
      intro h2
      rw [show nm y = nm e from h2, less_self] at h1
      cases h1
  have hsp : es = es.take k ++ e :: es.drop (k + 1) := by
    have h1 : es = es.take k ++ es.drop k := (List.take_append_drop k es).symm
    have h2 : es.drop k = e :: es.drop (k + 1) := by
      rw [List.drop_eq_getElem_cons hlt]
      congr 1
      simpa [hlt] using hk
    rw [← h2]; exact h1
  have hl : outL name (es.take k) = es.take k := List.filter_eq_self.2 fun y hy => by
    obtain ⟨i, hi, rfl⟩ := List.getElem_of_mem hy
    have hi' : i < k := by simp at hi; omega
    have := hne i (es.take k)[i] (by simp [show i < es.length by omega]) (by omega)
    simpa using this
  have hr : outL name (es.drop (k + 1)) = es.drop (k + 1) := List.filter_eq_self.2 fun y hy => by
    obtain ⟨i, hi, rfl⟩ := List.getElem_of_mem hy
    have hi' : k + 1 + i < es.length := by simp at hi; omega
    have := hne (k + 1 + i) (es.drop (k + 1))[i] (by simp [hi']) (by omega)
    simpa using this
  have hm : (e.name.toList == name.toList) = true := by rw [hn]; simp
  calc outL name es = outL name (es.take k ++ e :: es.drop (k + 1)) := by rw [← hsp]
    _ = outL name (es.take k) ++ outL name (e :: es.drop (k + 1)) := by simp [outL, List.filter_append]
    _ = outL name (es.take k) ++ outL name (es.drop (k + 1)) := by
      congr 1
      simp [outL, hm]
    _ = _ := by rw [hl, hr]
end Go.Proofs.YtnolbfijcnldjaaGreatDoor

/- The place of a name in a directory, by the program. -/
namespace Go.Proofs.YtnolbfijcnldjaaGreatDoor
open Go.RowKit

set_option maxHeartbeats 1000000 in
set_option maxRecDepth 100000 in
theorem search2_any (a : Option Addr) (n c : Nat) (es : List LEnt) (L U : Nat) (name : ByteArray) (w : World) (hn : n ≤ 1048576) (ha : Asc es) (hU : U ≤ w.heap.size) (H : EntsAt w L U a n es) :
    Calls Tryz.prog 179 #[.slice a n c, .string name, .func (.func 180) #[] #[]] w fun e w' => PlaceEnd es name e ∧ Below w.heap.size w w' := by
  have HL : Hid (n = es.length) := H.len
  go_enter Tryz.func179, Tryz.ntmps179
  go_wp2_with fail
  go_loopg [9, 10] (n + 1) (fun g i j wr => ∃ x y : Nat, x ≤ y ∧ y ≤ n ∧ Hid (g = y - x + 1) ∧ i = .int .i64 x ∧ j = .int .i64 y ∧ Hid (Low es name x ∧ High es name y) ∧ Below w.heap.size w wr)
  case atStart => exact ⟨0, n, by omega, by omega, by show _ = _; omega, rfl, rfl, ⟨fun i hi => by omega, fun i hi e he => by have := (List.getElem?_eq_some_iff.1 he).1; have := HL.out; omega⟩, Below.refl _ _⟩
  case round =>
    obtain ⟨x, y, hxy, hy, hg, rfl, rfl, hq, hb⟩ := hrel
    by_cases hlt : x < y
    · have hlt' : (x : Int) < (y : Int) := by omega
      obtain ⟨h, hh⟩ : ∃ h : Nat, ((x : Int) + (y : Int)) / 2 = (h : Int) := ⟨(x + y) / 2, by omega⟩
      have hh1 : x ≤ h := by omega
      have hh2 : h < y := by omega
      obtain ⟨b, off, ha', hL, hbU, hc⟩ := H.at_ (by omega)
      subst ha'
      obtain ⟨e, he, hsz, hc0, hc1⟩ := hc h (by omega)
      rw [← hb.cell (by simp; omega)] at hc0 hc1
      have HE : Hid (es[h]? = some e) := he
      clear he hc
      have hhn : (h : Int) < (n : Int) := by omega
      have hh0 : (0 : Int) ≤ (h : Int) := by omega
      go_wp2_with fail
      refine (closure_any _ _ _ _).mono ?_
      rintro z w1 ⟨rfl, rfl⟩
      have hb1 : ∀ o, Below w.heap.size w (wr.alloc o) := fun o => hb.alloc hb.size _
      by_cases hcm : Lib.compareBytes e.name.data.toList name.data.toList < 0
      · have HC : Hid (Lib.compareBytes (nm e) name.data.toList < 0) := hcm
        go_wp2_with fail
        go_roundg (y - (h + 1) + 1)
        case measure => have := hg.out; omega
        case rel => exact ⟨h + 1, y, by omega, by omega, rfl, by go_num, rfl, ⟨low_up ha HE.out HC.out, hq.out.2⟩, hb1 _⟩
      · have HC : Hid (¬ Lib.compareBytes (nm e) name.data.toList < 0) := hcm
        go_wp2_with fail
        go_roundg (h - x + 1)
        case measure => have := hg.out; omega
        case rel => exact ⟨x, h, by omega, by omega, rfl, rfl, rfl, ⟨hq.out.1, high_down ha HE.out (by have := HC.out; omega)⟩, hb1 _⟩
    · have hxy' : x = y := by omega
      subst hxy'
      by_cases hxn : x < n
      · obtain ⟨b, off, ha', hL, hbU, hc⟩ := H.at_ (by omega)
        subst ha'
        obtain ⟨e, he, hsz, hc0, hc1⟩ := hc x hxn
        rw [← hb.cell (by simp; omega)] at hc0 hc1
        have HE : Hid (es[x]? = some e) := he
        clear he hc
        have hxn' : (x : Int) < (n : Int) := by omega
        have hx0 : (0 : Int) ≤ (x : Int) := by omega
        have hb1 : ∀ o, Below w.heap.size w (wr.alloc o) := fun o => hb.alloc hb.size _
        go_wp2_with fail
        refine (closure_any _ _ _ _).mono ?_
        rintro z w1 ⟨rfl, rfl⟩
        by_cases hcm : Lib.compareBytes e.name.data.toList name.data.toList = 0
        · have t1 : (Lib.compareBytes e.name.data.toList name.data.toList == 0) = true := by simpa using hcm
          clear hcm
          go_wp2_with fail
          go_ret2
          exact ⟨⟨x, true, rfl, by have := HL.out; omega, hq.out.1, hq.out.2⟩, hb1 _⟩
        · have t1 : (Lib.compareBytes e.name.data.toList name.data.toList == 0) = false := by simpa using hcm
          clear hcm
          go_wp2_with fail
          go_ret2
          exact ⟨⟨x, false, rfl, by have := HL.out; omega, hq.out.1, hq.out.2⟩, hb1 _⟩
      · have hxn' : ¬ (x : Int) < (n : Int) := by omega
        go_wp2_with fail
        go_ret2
        exact ⟨⟨x, false, rfl, by have := HL.out; omega, hq.out.1, hq.out.2⟩, hb⟩

set_option maxHeartbeats 400000 in
theorem place2_any (a : Option Addr) (n c : Nat) (es : List LEnt) (L U : Nat) (name : ByteArray) (w : World) (hn : n ≤ 1048576) (ha : Asc es) (hU : U ≤ w.heap.size) (H : EntsAt w L U a n es) :
    Calls Tryz.prog 137 #[.slice a n c, .string name] w fun e w' => PlaceEnd es name e ∧ Below w.heap.size w w' := by
  go_enter Tryz.func137, Tryz.ntmps137
  go_wp2_with fail
  refine (search2_any _ _ _ _ L U _ _ hn ha hU H).mono ?_
  rintro z w1 ⟨⟨x, b, rfl, hr⟩, hb⟩
  have HR : Hid (x ≤ es.length ∧ Low es name x ∧ High es name x) := hr
  clear hr
  go_wp2_with fail
  go_ret2
  exact ⟨⟨x, b, rfl, HR.out⟩, hb⟩

end Go.Proofs.YtnolbfijcnldjaaGreatDoor
