/- Logs as arguments of a law: in a box of their own. -/
import Derived.Test.YtkllejaamnojpaaLogB
namespace Go.Proofs.Ytkllejaamnojpaa
open Go.RowKit

/-- The argument in its box, all else as it was. -/
structure Held1 (w wx : World) (q s : Int) (a : Option Addr) (n c : Nat) (a' : Option Addr) (n' c' : Nat) : Prop where
  below : Below w.heap.size w wx
  box : LogBox wx w.heap.size q s a n c a' n' c'
  size : w.heap.size < wx.heap.size
theorem Held1.next {w wx wy : World} {q s : Int} {a : Option Addr} {n c : Nat} {a' : Option Addr} {n' c' : Nat} (h : Held1 w wx q s a n c a' n' c') (hb : Below wx.heap.size wx wy) : Held1 w wy q s a n c a' n' c' :=
  ⟨h.below.trans (hb.mono h.below.size), h.box.of (hb.block _ h.size), by have := hb.size; have := h.size; omega⟩
theorem Held1.new (w : World) (q s : Int) (a : Option Addr) (n c : Nat) (a' : Option Addr) (n' c' : Nat) (t : TypeId) : Held1 w (w.alloc (Obj.cells #[.int .i64 q, .int .i64 s, .slice a n c, .slice a' n' c'] t)) q s a n c a' n' c' :=
  ⟨(Below.refl _ _).alloc (Nat.le_refl _) _, ⟨by simp [go_sem], by simp [go_sem], by simp [go_sem], by simp [go_sem]⟩, by simp⟩
theorem LogBox.new (w : World) (q s : Int) (a : Option Addr) (n c : Nat) (a' : Option Addr) (n' c' : Nat) (t : TypeId) : LogBox (w.alloc (Obj.cells #[.int .i64 q, .int .i64 s, .slice a n c, .slice a' n' c'] t)) w.heap.size q s a n c a' n' c' := ⟨by simp [go_sem], by simp [go_sem], by simp [go_sem], by simp [go_sem]⟩
theorem LogBox.drew {W : World} {q : Nat} {x y : Int} {a : Option Addr} {n c : Nat} {a' : Option Addr} {n' c' : Nat} (h : LogBox W q x y a n c a' n' c') : LogBox W.drew q x y a n c a' n' c' := h.of rfl
theorem LogAt.drew {W : World} {L U : Nat} {x y : Int} {a : Option Addr} {n : Nat} {a' : Option Addr} {n' : Nat} {l : LLog} (h : LogAt W L U x y a n a' n' l) : LogAt W.drew L U x y a n a' n' l := ⟨h.q, h.s, h.b.blocks fun _ _ _ => rfl, h.o.blocks fun _ _ _ => rfl⟩
/-- What the law asks of the sizes. -/
def LogSz (n n' : Nat) : Prop := n ≤ 1048576 ∧ n' ≤ 1048576
end Go.Proofs.Ytkllejaamnojpaa
