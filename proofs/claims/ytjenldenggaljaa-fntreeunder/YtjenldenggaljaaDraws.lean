/- Trees and numbers as they are drawn. -/
import Derived.Test.YtjenldenggaljaaBent
namespace Go.Proofs.Ytjenldenggaljaa
open Go.RowKit

theorem any_to (rb P : Nat) (a : Option Addr) (n c : Nat) (os : List LObj) (L U : Nat) (w : World) (hp : P ≤ 999990) (hn : n ≤ 32) (hU : U ≤ w.heap.size) (H : ObjsAt w L U a n os) (R : RdTo w rb P) :
    Calls Try.prog 90 #[.pointer (some ⟨rb, 0, none⟩), .agg #[.slice a n c]] w fun e w' => NumEnd (fun z => -1 ≤ z ∧ z ≤ 32) e ∧ RdTo w' rb (P + 2) ∧ But rb w w' := by
  obtain ⟨p, hpP, R⟩ := R
  exact (any_any rb p a n c os L U w (by omega) hn hU H R).mono (by rintro e w' ⟨h1, ⟨q, hq, h2⟩, h3⟩; exact ⟨h1, ⟨q, by omega, h2⟩, h3⟩)
/-- A drawn tree as an argument: where it lies, and how large it is. -/
structure TreeIn (w w' : World) (b n : Nat) (os : List LObj) : Prop where
  at_ : ObjsAt w' w.heap.size w'.heap.size (some ⟨b, 0, none⟩) n os
  le : n ≤ 32
  bn : Bn os
/-- In the midst of a draw: the box of the answer's tree, the reader behind it, the tree. -/
structure DSt (w W : World) (rb P b n : Nat) (os : List LObj) : Prop where
  below : Below w.heap.size w W
  rd : RdTo W rb P
  rlt : w.heap.size < rb
  rlt2 : rb < W.heap.size
  rx : ∃ f, W.rowIs w.heap.size 25 1 f
  tree : ∃ L, rb < L ∧ ObjsAt W L W.heap.size (some ⟨b, 0, none⟩) n os
  le : n ≤ 32
  bn : Bn os
theorem DSt.next {w W W' : World} {rb P P' b n : Nat} {os : List LObj} (h : DSt w W rb P b n os) (hb : But rb W W') (hr : RdTo W' rb P') : DSt w W' rb P' b n os := by
  obtain ⟨f, hf⟩ := h.rx
  obtain ⟨L, hL, hO⟩ := h.tree
  have h1 := h.rlt
  have h2 := h.rlt2
  have h3 := hb.below.size
  exact ⟨h.below.trans (hb.below.mono (by omega)), hr, h1, by omega, ⟨f, hf.of_block (hb.block _ (by omega) hf.lt)⟩, ⟨L, hL, (hO.but hb hL (Nat.le_refl _)).wide (Nat.le_refl _) h3⟩, h.le, h.bn⟩
theorem DSt.more {w W W' : World} {rb P b n : Nat} {os : List LObj} (h : DSt w W rb P b n os) (hb : Below W.heap.size W W') : DSt w W' rb P b n os :=
  h.next (But.of_below h.rlt2 hb) (h.rd.but hb h.rlt2)
theorem DSt.box {w W : World} {rb P b n : Nat} {os : List LObj} (h : DSt w W rb P b n os) : (∃ x, W.cell? ⟨w.heap.size, 0, none⟩ = some x) ∧ W.frozen? ⟨w.heap.size, 0, none⟩ = false ∧ w.heap.size < W.heap.size := by
  obtain ⟨f', hf'⟩ := h.rx
  exact ⟨⟨_, hf'.cell (by omega)⟩, hf'.frozen 0, hf'.lt⟩
theorem DSt.fin {w W : World} {rb P b n : Nat} {os : List LObj} (h : DSt w W rb P b n os) (v : Value) : TreeIn w (W.setCell ⟨w.heap.size, 0, none⟩ v) b n os ∧ Below w.heap.size w (W.setCell ⟨w.heap.size, 0, none⟩ v) := by
  obtain ⟨L, hL, hO⟩ := h.tree
  have h1 := h.rlt
  refine ⟨⟨?_, h.le, h.bn⟩, h.below.setCell (by simp) _⟩
  have h2 := hO.setCell (⟨w.heap.size, 0, none⟩ : Addr) v (by show w.heap.size < L; omega)
  simpa using h2.wide (L' := w.heap.size) (U' := W.heap.size) (by omega) (Nat.le_refl _)
/-- The reader is open, and a tree is drawn. -/
theorem DSt.start {w W : World} {a : Option Addr} {m c' : Nat} {e : Ending} (h : BentEnd ((w.alloc (Obj.cells #[.slice none 0 0] 25)).alloc (.cells #[.slice a m c', .int .i64 0] 115)) (w.heap.size + 1) 160 e W) : ∃ b n c os, e = .returned (.agg #[.slice (some ⟨b, 0, none⟩) n c]) ∧ DSt w W (w.heap.size + 1) 160 b n os := by
  obtain ⟨b, n, c, os, vs, rfl, hn, h32, hT, hbn, hr, hb⟩ := h
  have hb1 : Below w.heap.size w ((w.alloc (Obj.cells #[.slice none 0 0] 25)).alloc (.cells #[.slice a m c', .int .i64 0] 115)) := ((Below.refl _ _).alloc (Nat.le_refl _) _).alloc (by simp) _
  have hs := hb.below.size
  simp at hs
  have hr1 : ((w.alloc (Obj.cells #[.slice none 0 0] 25)).alloc (.cells #[.slice a m c', .int .i64 0] 115)).rowIs w.heap.size 25 1 (fun _ => .slice none 0 0) := (row1 w _ 25).of_block (((Below.refl (w.heap.size + 1) (w.alloc (Obj.cells #[.slice none 0 0] 25))).alloc (by simp) _).block _ (by omega))
  refine ⟨b, n, c, os, rfl, hb1.trans (hb.below.mono (by omega)), hr, by omega, by omega, ⟨_, hr1.of_block (hb.block _ (by omega) (by simp; omega))⟩, ⟨w.heap.size + 2, by omega, ?_⟩, h32, hbn⟩
  have := hT.to_objs
  rw [← hn] at this
  simpa using this

def DrawnT (w : World) (e : Ending) (w' : World) : Prop := (∃ b n c os, e = .returned (.agg #[.slice (some ⟨b, 0, none⟩) n c]) ∧ TreeIn w w' b n os) ∧ Below w.heap.size w w'
theorem rd_open {w : World} {a : Option Addr} {m c' : Nat} {ys : List Int} (hm : m ≤ 2000) (hB : BytesAt (w.alloc (Obj.cells #[.slice none 0 0] 25)) (w.heap.size + 1) a m ys) :
    RdTo ((w.alloc (Obj.cells #[.slice none 0 0] 25)).alloc (.cells #[.slice a m c', .int .i64 0] 115)) (w.heap.size + 1) 0 := ⟨0, Nat.le_refl _, by simpa using rd_start (c := c') hm (by simp) hB⟩
theorem bytes_box {w : World} {a : Option Addr} {n : Nat} {zs : List Int} (H : BytesAt w w.heap.size a n zs) : BytesAt (w.alloc (Obj.cells #[.slice none 0 0] 25)) (w.heap.size + 1) a n zs :=
  (H.below ((Below.refl _ _).alloc (Nat.le_refl _) _) (Nat.le_refl _)).wide (by omega)
set_option maxHeartbeats 4000000 in
set_option maxRecDepth 20000 in
theorem drawOk (a : Option Addr) (n c : Nat) (zs : List Int) (w : World) (hn : n ≤ 1048576) (hc : n ≤ c) (H : BytesAt w w.heap.size a n zs) :
    Calls Try.prog 47 #[.slice a n c] w fun e w' => DrawnT w e w' := by
  go_enter Try.func47, Try.ntmps47
  go_wp2_with fail
  refine (open16 a n c zs (w.heap.size + 1) _ hn hc (bytes_box H)).mono ?_
  rintro e W1 ⟨m, c', ys, rfl, hm, hm0, hB, rfl⟩
  go_wp2_with fail
  refine (bent_any (w.heap.size + 1) 0 _ (by omega) (by simp) (rd_open hm hB)).mono ?_
  rintro e W2 hE
  obtain ⟨b, k, c2, os, rfl, S2⟩ := DSt.start hE
  obtain ⟨⟨rv, hr0⟩, hr1, hz⟩ := S2.box
  clear hE hB H
  go_wp2_with fail
  refine bodyPost_ret (v := .agg #[.slice (some ⟨b, 0, none⟩) k c2]) (by rw [results, Try.results47]; simp [go_sem, World.cell?_setCell_same _ _ _ hr0]) rfl ?_
  exact ⟨⟨b, k, c2, os, rfl, (S2.fin _).1⟩, (S2.fin _).2⟩
def DrawnU (w : World) (e : Ending) (w' : World) : Prop := (∃ b n c os x y, e = .returned (.tuple #[.agg #[.slice (some ⟨b, 0, none⟩) n c], .int .i64 x, .int .i64 y]) ∧ TreeIn w w' b n os) ∧ Below w.heap.size w w'
set_option maxHeartbeats 4000000 in
set_option maxRecDepth 20000 in
theorem drawUnder (a : Option Addr) (n c : Nat) (zs : List Int) (w : World) (hn : n ≤ 1048576) (hc : n ≤ c) (H : BytesAt w w.heap.size a n zs) :
    Calls Try.prog 37 #[.slice a n c] w fun e w' => DrawnU w e w' := by
  go_enter Try.func37, Try.ntmps37
  go_wp2_with fail
  refine (open16 a n c zs (w.heap.size + 1) _ hn hc (bytes_box H)).mono ?_
  rintro e W1 ⟨m, c', ys, rfl, hm, hm0, hB, rfl⟩
  go_wp2_with fail
  refine (bent_any (w.heap.size + 1) 0 _ (by omega) (by simp) (rd_open hm hB)).mono ?_
  rintro e W2 hE
  obtain ⟨b, k, c2, os, rfl, S2⟩ := DSt.start hE
  clear hE hB H
  have S3 := S2.more (W' := W2.alloc (Obj.cells #[.slice (some ⟨b, 0, none⟩) k c2] 25)) ((Below.refl _ _).alloc (Nat.le_refl _) _)
  have hz2 := S2.rlt2
  have htb : (W2.alloc (Obj.cells #[.slice (some ⟨b, 0, none⟩) k c2] 25)).cell? ⟨W2.heap.size, 0, none⟩ = some (.slice (some ⟨b, 0, none⟩) k c2) := by simp [go_sem]
  have hT : W2.heap.size < (W2.alloc (Obj.cells #[.slice (some ⟨b, 0, none⟩) k c2] 25)).heap.size := by simp
  go_wp2_with fail
  generalize hTq : W2.heap.size = T at *
  generalize hW3 : W2.alloc (Obj.cells #[.slice (some ⟨b, 0, none⟩) k c2] 25) = W3 at *
  clear hW3 hTq S2
  obtain ⟨L, hL, hO⟩ := S3.tree
  refine (any_to (w.heap.size + 1) 160 (some ⟨b, 0, none⟩) k c2 os L W3.heap.size W3 (by omega) S3.le (Nat.le_refl _) hO S3.rd).mono ?_
  rintro e W4 ⟨⟨x, rfl, hx⟩, hr4, hb4⟩
  have S4 := S3.next hb4 hr4
  have ht4 : W4.cell? ⟨T, 0, none⟩ = some (.slice (some ⟨b, 0, none⟩) k c2) := by rw [hb4.cell (by simp; omega) (by simpa using hT)]; exact htb
  have hT4 : T < W4.heap.size := by have := hb4.below.size; omega
  clear S3 hb4 hr4 hO hL htb hT
  have hne : T ≠ w.heap.size := by omega
  have S5 := S4.more (W' := W4.drew) (Below.refl _ _).drew
  obtain ⟨L, hL, hO⟩ := S5.tree
  go_upto_region 4 with fail
  go_region_held3 (fun w' => w'.cell? ⟨T, 0, none⟩ = some (.slice (some ⟨b, 0, none⟩) k c2)) (first | go_keep | with_reducible exact htB | (rw [World.cell?_setCell_other _ _ _ _ (by first | (simp; done) | (simp; omega))]; with_reducible exact htB))
    (first
      | (go_at_call 73; refine (dir_to (w.heap.size + 1) 162 (some ⟨b, 0, none⟩) k c2 os L _ _ (by omega) S4.le (Nat.le_refl _) hO S5.rd).mono ?_; rintro e wB ⟨⟨y, rfl, hy⟩, hrB, hbB⟩; have SB := S5.next hbB hrB; have htB : wB.cell? ⟨T, 0, none⟩ = some (.slice (some ⟨b, 0, none⟩) k c2) := (by rw [hbB.cell (by simp; omega) (by simpa using hT4)]; exact ht4); obtain ⟨⟨rv, hr0⟩, hr1, hz⟩ := SB.box))
  all_goals
    go_wp2_with fail
    refine bodyPost_ret (v := .tuple #[.agg #[.slice (some ⟨b, 0, none⟩) k c2], .int .i64 x, .int .i64 y]) (by rw [results, Try.results37]; simp [go_sem, World.cell?_setCell_same _ _ _ hr0]) rfl ?_
    exact ⟨⟨b, k, c2, os, x, y, rfl, (SB.fin _).1⟩, (SB.fin _).2⟩
def DrawnH (w : World) (e : Ending) (w' : World) : Prop := (∃ b n c os y, e = .returned (.tuple #[.agg #[.slice (some ⟨b, 0, none⟩) n c], .int .i64 y]) ∧ TreeIn w w' b n os) ∧ Below w.heap.size w w'
set_option maxHeartbeats 4000000 in
set_option maxRecDepth 20000 in
theorem drawHome (a : Option Addr) (n c : Nat) (zs : List Int) (w : World) (hn : n ≤ 1048576) (hc : n ≤ c) (H : BytesAt w w.heap.size a n zs) :
    Calls Try.prog 45 #[.slice a n c] w fun e w' => DrawnH w e w' := by
  go_enter Try.func45, Try.ntmps45
  go_wp2_with fail
  refine (open16 a n c zs (w.heap.size + 1) _ hn hc (bytes_box H)).mono ?_
  rintro e W1 ⟨m, c', ys, rfl, hm, hm0, hB, rfl⟩
  go_wp2_with fail
  refine (bent_any (w.heap.size + 1) 0 _ (by omega) (by simp) (rd_open hm hB)).mono ?_
  rintro e W2 hE
  obtain ⟨b, k, c2, os, rfl, S2⟩ := DSt.start hE
  clear hE hB H
  have S3 := S2.more (W' := W2.alloc (Obj.cells #[.slice (some ⟨b, 0, none⟩) k c2] 25)) ((Below.refl _ _).alloc (Nat.le_refl _) _)
  have hz2 := S2.rlt2
  have htb : (W2.alloc (Obj.cells #[.slice (some ⟨b, 0, none⟩) k c2] 25)).cell? ⟨W2.heap.size, 0, none⟩ = some (.slice (some ⟨b, 0, none⟩) k c2) := by simp [go_sem]
  have hT : W2.heap.size < (W2.alloc (Obj.cells #[.slice (some ⟨b, 0, none⟩) k c2] 25)).heap.size := by simp
  go_wp2_with fail
  generalize hTq : W2.heap.size = T at *
  generalize hW3 : W2.alloc (Obj.cells #[.slice (some ⟨b, 0, none⟩) k c2] 25) = W3 at *
  clear hW3 hTq S2
  have S4 := S3
  have ht4 := htb
  have hT4 := hT
  clear S3 htb hT
  have hne : T ≠ w.heap.size := by omega
  have S5 := S4.more (W' := W3.drew) (Below.refl _ _).drew
  obtain ⟨L, hL, hO⟩ := S5.tree
  go_upto_region 3 with fail
  go_region_held3 (fun w' => w'.cell? ⟨T, 0, none⟩ = some (.slice (some ⟨b, 0, none⟩) k c2)) (first | go_keep | with_reducible exact htB | (rw [World.cell?_setCell_other _ _ _ _ (by first | (simp; done) | (simp; omega))]; with_reducible exact htB))
    (first
      | (go_at_call 90; refine (any_to (w.heap.size + 1) 160 (some ⟨b, 0, none⟩) k c2 os L _ _ (by omega) S4.le (Nat.le_refl _) hO S5.rd).mono ?_; rintro e wB ⟨⟨y, rfl, hy⟩, hrB, hbB⟩; have SB := S5.next hbB hrB; have htB : wB.cell? ⟨T, 0, none⟩ = some (.slice (some ⟨b, 0, none⟩) k c2) := (by rw [hbB.cell (by simp; omega) (by simpa using hT4)]; exact ht4); obtain ⟨⟨rv, hr0⟩, hr1, hz⟩ := SB.box))
  all_goals
    go_wp2_with fail
    refine bodyPost_ret (v := .tuple #[.agg #[.slice (some ⟨b, 0, none⟩) k c2], .int .i64 y]) (by rw [results, Try.results45]; simp [go_sem, World.cell?_setCell_same _ _ _ hr0]) rfl ?_
    exact ⟨⟨b, k, c2, os, y, rfl, (SB.fin _).1⟩, (SB.fin _).2⟩
end Go.Proofs.Ytjenldenggaljaa
