import Derived.Test.YtdjffkiiglilnaaSlimI3
import Derived.Deep.RegionHeld
/- Lists that are made shorter: the program: what goes again is taken out. -/
namespace Go.Proofs.Ytdjffkiiglilnaa
open Go.RowKit

def goesPair (ops : List LOp) (id : Int) (i k j : Nat) : Bool := (decide (i ≤ j) && decide (j ≤ k)) && (idAt ops j == id)
theorem OwnOps.nil_ (w : World) (B : Nat) : OwnOps w B (.slice none 0 0) [] := World.ownsRow_nil _ _ _ _
theorem copy_list (a : Option Addr) (n c : Nat) (ops : List LOp) (L U : Nat) (w : World) (hn : n ≤ 1000) (H : OpsAt w L U a n ops) :
    Calls Try.prog 65 #[.slice a n c] w (SlimEnd w ops) := by
  go_enter Try.func65, Try.ntmps65
  go_wp2_with (first
    | (at_builtin; refine wpList_app_all _ rfl (.const (.slice none 0 0)) (.tmp 3) rfl w.heap.size _ [] ops (World.ownsRow_nil _ _ _ _) a n c L U H rfl rfl ?c2 ?c3 ?_)
    | go_in)
  case c2 => simp; omega
  case c3 => simp
  intro v1 w1 hE1
  have hown1 : OwnOps w1 w.heap.size v1 ops := by simpa using hE1.own
  have hb1 : Below w.heap.size w w1 := hE1.belowW (OwnOps.nil_ _ _) (Below.refl _ _) (Nat.le_refl _)
  clear hE1
  go_wp2_with fail
  go_ret
  exact ⟨⟨_, rfl, hown1⟩, hb1⟩

end Go.Proofs.Ytdjffkiiglilnaa
