import Derived.Test.YtnfegihemhidgaaSlimI3
import Derived.Deep.RegionHeld
/- Lists that are made shorter: the program: what goes again is taken out. -/
namespace Go.Proofs.Ytnfegihemhidgaa
open Go.RowKit

def goesPair (ops : List LOp) (id : Int) (i k j : Nat) : Bool := (decide (i ≤ j) && decide (j ≤ k)) && (idAt ops j == id)
theorem OwnOps.nil_ (w : World) (B : Nat) : OwnOps w B (.slice none 0 0) [] := World.ownsRow_nil _ _ _ _
end Go.Proofs.Ytnfegihemhidgaa
