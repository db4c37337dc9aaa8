/- Logs: on what they lean, in memory; contracts of the law's szLog, toLog, eqLog. -/
import Derived.Test.YtdjffkiiglilnaaOpSame
namespace Go.Proofs.Ytdjffkiiglilnaa
open Go.RowKit Go.ChangeShapes Go.WideShapes

structure LBase where
  id : Int
  ver : Int
/-- What a slice of bases is. -/
structure BasesAt (w : World) (L U : Nat) (a : Option Addr) (n : Nat) (bs : List LBase) : Prop where
  len : n = bs.length
  bd : n ≤ maxLen
  at_ : n ≠ 0 → ∃ b off, a = some ⟨b, off, none⟩ ∧ L ≤ b ∧ b < U ∧ ∀ i, i < n → ∃ e, bs[i]? = some e ∧ w.cell? ⟨b, off + i * 2, none⟩ = some (.int .i64 e.id) ∧ w.cell? ⟨b, off + i * 2 + 1, none⟩ = some (.int .i64 e.ver)
theorem BasesAt.below {w w' : World} {L U B : Nat} {a : Option Addr} {n : Nat} {es : List LBase} (h : BasesAt w L U a n es) (hb : Below B w w') (hU : U ≤ B) : BasesAt w' L U a n es :=
  ⟨h.len, h.bd, fun hn => by
    obtain ⟨b, off, ha, hL, hbU, hc⟩ := h.at_ hn
    refine ⟨b, off, ha, hL, hbU, fun i hi => ?_⟩
    obtain ⟨e, he, h0, h1⟩ := hc i hi
    exact ⟨e, he, by rw [hb.cell (by simp; omega)]; exact h0, by rw [hb.cell (by simp; omega)]; exact h1⟩⟩
theorem BasesAt.wide {w : World} {L U L' U' : Nat} {a : Option Addr} {n : Nat} {es : List LBase} (h : BasesAt w L U a n es) (hL' : L' ≤ L) (hU : U ≤ U') : BasesAt w L' U' a n es :=
  ⟨h.len, h.bd, fun hn => by
    obtain ⟨b, off, ha, hL, hbU, hc⟩ := h.at_ hn
    exact ⟨b, off, ha, by omega, by omega, hc⟩⟩
theorem BasesAt.blocks {w w' : World} {L U : Nat} {a : Option Addr} {n : Nat} {es : List LBase} (h : BasesAt w L U a n es) (hb : ∀ b, L ≤ b → b < U → w'.heap[b]? = w.heap[b]?) : BasesAt w' L U a n es :=
  ⟨h.len, h.bd, fun hn => by
    obtain ⟨b, off, ha, hL, hbU, hc⟩ := h.at_ hn
    refine ⟨b, off, ha, hL, hbU, fun i hi => ?_⟩
    obtain ⟨e, he, h0, h1⟩ := hc i hi
    have hk := hb b hL hbU
    exact ⟨e, he, by rw [World.cell?_of_block (w := w) hk]; exact h0, by rw [World.cell?_of_block (w := w) hk]; exact h1⟩⟩
theorem OpsAt.blocks {w w' : World} {L U : Nat} {a : Option Addr} {n : Nat} {ops : List LOp} (h : OpsAt w L U a n ops) (hb : ∀ b, L ≤ b → b < U → w'.heap[b]? = w.heap[b]?) : OpsAt w' L U a n ops :=
  ⟨h.len, h.bd, fun hn => by
    obtain ⟨b, off, ha, hL, hbU, hc⟩ := h.at_ hn
    refine ⟨b, off, ha, hL, hbU, fun i hi => ?_⟩
    obtain ⟨o, ho, hs, h0⟩ := hc i hi
    exact ⟨o, ho, hs, h0.of_block (hb b hL hbU)⟩⟩

structure LLog where
  who : Int
  seq : Int
  bases : List LBase
  list : List LOp
/-- The value of a log. -/
def lgV (q s : Int) (a : Option Addr) (n c : Nat) (a' : Option Addr) (n' c' : Nat) : Value := .agg #[.int .i64 q, .int .i64 s, .slice a n c, .slice a' n' c']
/-- What a log is. -/
structure LogAt (w : World) (L U : Nat) (q s : Int) (a : Option Addr) (n : Nat) (a' : Option Addr) (n' : Nat) (l : LLog) : Prop where
  q : q = l.who
  s : s = l.seq
  b : BasesAt w L U a n l.bases
  o : OpsAt w L U a' n' l.list
theorem LogAt.below {w w' : World} {L U B : Nat} {q s : Int} {a a' : Option Addr} {n n' : Nat} {l : LLog} (h : LogAt w L U q s a n a' n' l) (hb : Below B w w') (hU : U ≤ B) : LogAt w' L U q s a n a' n' l := ⟨h.q, h.s, h.b.below hb hU, h.o.below hb hU⟩
theorem LogAt.wide {w : World} {L U L' U' : Nat} {q s : Int} {a a' : Option Addr} {n n' : Nat} {l : LLog} (h : LogAt w L U q s a n a' n' l) (hL : L' ≤ L) (hU : U ≤ U') : LogAt w L' U' q s a n a' n' l := ⟨h.q, h.s, h.b.wide hL hU, h.o.wide hL hU⟩

section
variable {H : Type} {enc : TypeId × Value → H} {w : World} {spare : Nat → Bool} {held : Bool}
theorem array4 {α : Type} {l : Array α} (h : l.size = 4) : ∃ a b c d, l = #[a, b, c, d] := by
  obtain ⟨l⟩ := l
  match l, h with
  | [a, b, c, d], _ => exact ⟨a, b, c, d, rfl⟩
end

theorem infoB : (Try.prog.info? 40).map (fun i => (i.zero.map (·.cells), i.size, i.bytes)) = some (some #[.int .i64 0, .int .i64 0], 2, 16) := by kernel_rfl

/-- Bases in a row of one's own, from its first cell on. -/
def BaseRow (w : World) (B : Nat) (a : Option Addr) (n g cap : Nat) (f : Nat → Value) : Prop := n ≠ 0 → a = some ⟨g, 0, none⟩ ∧ B ≤ g ∧ n * 2 ≤ cap ∧ w.rowIs g 40 cap f
def baseF (f : Nat → Value) (es : List LBase) : Prop := ∀ i e, es[i]? = some e → f (i * 2) = .int .i64 e.id ∧ f (i * 2 + 1) = .int .i64 e.ver
theorem BaseRow.at_ {w : World} {B : Nat} {a : Option Addr} {n g cap : Nat} {f : Nat → Value} {es : List LBase} (h : BaseRow w B a n g cap f) (hf : baseF f es) (hn : n = es.length) (hbd : n ≤ maxLen) : BasesAt w B w.heap.size a n es :=
  ⟨hn, hbd, fun h0 => by
    obtain ⟨h1, h2, h3, h4⟩ := h h0
    refine ⟨g, 0, h1, h2, h4.lt, fun i hi => ?_⟩
    have hl : es[i]? = some (es[i]'(by omega)) := by simp [show i < es.length by omega]
    obtain ⟨q0, q1⟩ := hf i _ hl
    exact ⟨_, hl, by rw [Nat.zero_add, h4.cell (by omega), q0], by rw [Nat.zero_add, h4.cell (by omega), q1]⟩⟩
theorem BaseRow.kept {w w' : World} {B : Nat} {a : Option Addr} {n g cap : Nat} {f : Nat → Value} (h : BaseRow w B a n g cap f) (hb : ∀ k, k = g → k < w.heap.size → w'.heap[k]? = w.heap[k]?) : BaseRow w' B a n g cap f := fun hn => by
  obtain ⟨h1, h2, h3, h4⟩ := h hn
  exact ⟨h1, h2, h3, h4.of_block (hb g rfl h4.lt)⟩

theorem eqBase_same (i j : Int) (w : World) :
    Calls Try.prog 108 #[.agg #[.int .i64 i, .int .i64 j], .agg #[.int .i64 i, .int .i64 j]] w fun e w' => e = .returned (.bool true) ∧ Below w.heap.size w w' := by
  go_enter Try.func108, Try.ntmps108
  go_wp2
  go_ret
  exact ⟨by simp, ((Below.refl _ _).alloc (Nat.le_refl _) _).alloc (by simp) _⟩

set_option maxHeartbeats 800000 in
theorem eqBaseS_same (a a' : Option Addr) (n c c' : Nat) (es : List LBase) (L U L' U' : Nat) (w : World) (hU : U ≤ w.heap.size) (hU' : U' ≤ w.heap.size) (H : BasesAt w L U a n es) (H' : BasesAt w L' U' a' n es) :
    Calls Try.prog 67 #[.slice a n c, .slice a' n c'] w fun e w' => e = .returned (.bool true) ∧ Below w.heap.size w w' := by
  have hbd := H.bd
  unfold maxLen at hbd
  go_enter Try.func67, Try.ntmps67
  go_wp2_with fail
  go_loopg [5] n (fun k i wr => ∃ j : Nat, j ≤ n ∧ Hid (k = n - j) ∧ i = .int .i64 j ∧ Below w.heap.size w wr)
  case atStart => exact ⟨0, Nat.zero_le _, rfl, rfl, Below.refl _ _⟩
  case round =>
    obtain ⟨j, hj, hk, rfl, hb⟩ := hrel
    by_cases hlt : j < n
    · obtain ⟨b, off, ha, hL, hbU, hc⟩ := H.at_ (by omega)
      obtain ⟨b', off', ha', hL', hbU', hc'⟩ := H'.at_ (by omega)
      subst ha ha'
      obtain ⟨x, he, c0, c1⟩ := hc j hlt
      obtain ⟨y, he2, d0, d1⟩ := hc' j hlt
      obtain rfl : x = y := by rw [he] at he2; simpa using he2
      rw [← hb.cell (by simp <;> omega)] at c0 c1 d0 d1
      have hlt' : (j : Int) < (n : Int) := by omega
      have HEQ := eqBase_same x.id x.ver
      clear he he2 hc hc'
      go_wp2_with fail
      go_region_with (go_at_call 108; go_must (refine (HEQ _).mono ?_; rintro e w1 ⟨rfl, hb1⟩))
      all_goals
        go_wp2_with fail
        go_roundg (n - (j + 1))
        case measure => have := hk.out; omega
        case rel => exact ⟨j + 1, by omega, rfl, by go_num, hb.trans ((Below.refl _ _).drew.trans (hb1.mono (by simp)) |>.mono hb.size)⟩
    · obtain rfl : j = n := by omega
      go_wp2_with fail
      go_ret
      exact ⟨rfl, hb⟩

set_option maxHeartbeats 800000 in
theorem eqLog_same (q s : Int) (a : Option Addr) (n c : Nat) (a' : Option Addr) (n' c' : Nat) (a2 : Option Addr) (c2 : Nat) (a2' : Option Addr) (c2' : Nat) (l : LLog) (L U L' U' : Nat) (w : World) (hU : U ≤ w.heap.size) (hU' : U' ≤ w.heap.size) (H : LogAt w L U q s a n a' n' l) (H' : LogAt w L' U' q s a2 n a2' n' l) :
    Calls Try.prog 25 #[.agg #[.int .i64 q, .int .i64 s, .slice a n c, .slice a' n' c'], .agg #[.int .i64 q, .int .i64 s, .slice a2 n c2, .slice a2' n' c2']] w fun e w' => e = .returned (.bool true) ∧ Below w.heap.size w w' := by
  have HB := H.b
  have HO := H.o
  have HB' := H'.b
  have HO' := H'.o
  clear H H'
  go_enter Try.func25, Try.ntmps25
  go_wp2_with fail
  refine (eqBaseS_same _ _ _ _ _ _ L U L' U' _ (by simp <;> omega) (by simp <;> omega) (HB.below (((Below.refl _ _).alloc (Nat.le_refl _) _).alloc (by simp) _) hU) (HB'.below (((Below.refl _ _).alloc (Nat.le_refl _) _).alloc (by simp) _) hU')).mono ?_
  rintro x w1 ⟨rfl, hb1⟩
  have hb2 : Below w.heap.size w w1 := (((Below.refl _ _).alloc (Nat.le_refl _) _).alloc (by simp) _).trans (hb1.mono (by simp <;> omega))
  have hz := hb2.size
  have p3 : w1.cell? ⟨w.heap.size, 3, none⟩ = some (.slice a' n' c') := by rw [hb1.cell (by simp <;> omega)]; simp [go_sem]
  have p4 : w1.cell? ⟨w.heap.size + 1, 3, none⟩ = some (.slice a2' n' c2') := by rw [hb1.cell (by simp)]; simp [go_sem]
  clear hb1
  go_wp2_with fail
  refine (eqOpS_same _ _ _ _ _ _ L U L' U' _ (by omega) (by omega) (HO.below hb2 hU) (HO'.below hb2 hU')).mono ?_
  rintro x w2 ⟨rfl, hb3⟩
  go_wp2_with fail
  go_ret
  exact ⟨rfl, hb2.trans (hb3.mono hz)⟩
end Go.Proofs.Ytdjffkiiglilnaa
