/-
  No cell of these rows narrows 'for every input' (looked for: loops, veiled, ifaces, maps, wideKeys, modest, calm, conditions, laid).
  DERIVED. THE GIVEN ROWS OF THIS SEAT. 8 by the template 'for every input the law returns true; each argument reads behind the call as it read before'; 0 by the template 'total and deterministic' (their statements: YtmmgomgpnkahjaaTotals.lean).
  GIVEN WITH THE SEED: the statements are not yours to turn. If you find one false, say at which input.
  Laid BY PROGRAM, IN A SANDBOX (cutbox-rows.mjs): the forced cells as the released guide's own fill.sh prints them over the translation 85e39906a0bb6dde… (all of the seat's roots in one cut). By AI agents, Wed Nov 11 2026. No macro, syntax, notation, axiom, sorry.
-/
import Derived.Test.YtmmgomgpnkahjaaChecked
import GoSem.Claim
import GoSem.ClaimJoined
import GoSem.ClaimMapViews
import Derived.JoinedTies
import Derived.KernelRfl
namespace Go.Proofs.Ytmmgomgpnkahjaa
/- THE CELL 'sum', in the pinned program and in every row, IS THE sha256 OF THE DUMP (.gsa) THAT YtmmgomgpnkahjaaProg.lean LOADS. Nothing in Lean hashes anything: it is a label: what it is worth is what the hold of that sum in a sandbox is worth. -/
noncomputable def Try.pinned : Pinned := { name := "ytmmgomgpnkahjaa", sum := "85e39906a0bb6dde2a6e602e293463bbcc1133322df1a2eb586655c4c892de2a", checked := Try.checked }
namespace Rows
def none {H : Type} : Left H := { results := [], args := [] }

/-- 'laws.FnSlimIds': WHATEVER THE INPUT: true; the input reads as it did. -/
def fnSlimIdsSpec : ChangeSpec := { name := "fnSlimIds", fn := fun _ => fun
  | [d] => { results := [.lit (.bool true)], args := [d] }
  | _ => none }
def fnSlimIdsRow : OpenClaim := { program := "ytmmgomgpnkahjaa", sum := "85e39906a0bb6dde2a6e602e293463bbcc1133322df1a2eb586655c4c892de2a", func := "loop.example/shieling/laws.FnSlimIds", spec := "fnSlimIds", unfollowed := true, recurses := true, apart := false }
def FnSlimIdsSaid : Prop := fnSlimIdsRow.holds Try.pinned (OpenSpec.ofChange fnSlimIdsSpec)

/-- ITS FALSE NEIGHBOUR: 'it returns false'. Refute it at one input. -/
def fnSlimIdsWrong : ChangeSpec := { name := "fnSlimIds", fn := fun _ => fun
  | [d] => { results := [.lit (.bool false)], args := [d] }
  | _ => none }
def FnSlimIdsWrongFalsely : Prop := fnSlimIdsRow.holds Try.pinned (OpenSpec.ofChange fnSlimIdsWrong)

/-- 'laws.FnSlimTexts': WHATEVER THE INPUT: true; the input reads as it did. -/
def fnSlimTextsSpec : ChangeSpec := { name := "fnSlimTexts", fn := fun _ => fun
  | [d] => { results := [.lit (.bool true)], args := [d] }
  | _ => none }
def fnSlimTextsRow : OpenClaim := { program := "ytmmgomgpnkahjaa", sum := "85e39906a0bb6dde2a6e602e293463bbcc1133322df1a2eb586655c4c892de2a", func := "loop.example/shieling/laws.FnSlimTexts", spec := "fnSlimTexts", unfollowed := true, recurses := true, apart := false }
def FnSlimTextsSaid : Prop := fnSlimTextsRow.holds Try.pinned (OpenSpec.ofChange fnSlimTextsSpec)

/-- ITS FALSE NEIGHBOUR: 'it returns false'. Refute it at one input. -/
def fnSlimTextsWrong : ChangeSpec := { name := "fnSlimTexts", fn := fun _ => fun
  | [d] => { results := [.lit (.bool false)], args := [d] }
  | _ => none }
def FnSlimTextsWrongFalsely : Prop := fnSlimTextsRow.holds Try.pinned (OpenSpec.ofChange fnSlimTextsWrong)

/-- 'laws.FnSlimPairs': WHATEVER THE INPUT: true; the input reads as it did. -/
def fnSlimPairsSpec : ChangeSpec := { name := "fnSlimPairs", fn := fun _ => fun
  | [d] => { results := [.lit (.bool true)], args := [d] }
  | _ => none }
def fnSlimPairsRow : OpenClaim := { program := "ytmmgomgpnkahjaa", sum := "85e39906a0bb6dde2a6e602e293463bbcc1133322df1a2eb586655c4c892de2a", func := "loop.example/shieling/laws.FnSlimPairs", spec := "fnSlimPairs", unfollowed := true, recurses := true, apart := false }
def FnSlimPairsSaid : Prop := fnSlimPairsRow.holds Try.pinned (OpenSpec.ofChange fnSlimPairsSpec)

/-- ITS FALSE NEIGHBOUR: 'it returns false'. Refute it at one input. -/
def fnSlimPairsWrong : ChangeSpec := { name := "fnSlimPairs", fn := fun _ => fun
  | [d] => { results := [.lit (.bool false)], args := [d] }
  | _ => none }
def FnSlimPairsWrongFalsely : Prop := fnSlimPairsRow.holds Try.pinned (OpenSpec.ofChange fnSlimPairsWrong)

/-- 'laws.FnSlimMoves': WHATEVER THE INPUT: true; the input reads as it did. -/
def fnSlimMovesSpec : ChangeSpec := { name := "fnSlimMoves", fn := fun _ => fun
  | [d] => { results := [.lit (.bool true)], args := [d] }
  | _ => none }
def fnSlimMovesRow : OpenClaim := { program := "ytmmgomgpnkahjaa", sum := "85e39906a0bb6dde2a6e602e293463bbcc1133322df1a2eb586655c4c892de2a", func := "loop.example/shieling/laws.FnSlimMoves", spec := "fnSlimMoves", unfollowed := true, recurses := true, apart := false }
def FnSlimMovesSaid : Prop := fnSlimMovesRow.holds Try.pinned (OpenSpec.ofChange fnSlimMovesSpec)

/-- ITS FALSE NEIGHBOUR: 'it returns false'. Refute it at one input. -/
def fnSlimMovesWrong : ChangeSpec := { name := "fnSlimMoves", fn := fun _ => fun
  | [d] => { results := [.lit (.bool false)], args := [d] }
  | _ => none }
def FnSlimMovesWrongFalsely : Prop := fnSlimMovesRow.holds Try.pinned (OpenSpec.ofChange fnSlimMovesWrong)

/-- 'laws.FnExactSlimTexts': WHATEVER THE INPUT: true; the input reads as it did. -/
def fnExactSlimTextsSpec : ChangeSpec := { name := "fnExactSlimTexts", fn := fun _ => fun
  | [d] => { results := [.lit (.bool true)], args := [d] }
  | _ => none }
def fnExactSlimTextsRow : OpenClaim := { program := "ytmmgomgpnkahjaa", sum := "85e39906a0bb6dde2a6e602e293463bbcc1133322df1a2eb586655c4c892de2a", func := "loop.example/shieling/laws.FnExactSlimTexts", spec := "fnExactSlimTexts", unfollowed := true, recurses := true, apart := false }
def FnExactSlimTextsSaid : Prop := fnExactSlimTextsRow.holds Try.pinned (OpenSpec.ofChange fnExactSlimTextsSpec)

/-- ITS FALSE NEIGHBOUR: 'it returns false'. Refute it at one input. -/
def fnExactSlimTextsWrong : ChangeSpec := { name := "fnExactSlimTexts", fn := fun _ => fun
  | [d] => { results := [.lit (.bool false)], args := [d] }
  | _ => none }
def FnExactSlimTextsWrongFalsely : Prop := fnExactSlimTextsRow.holds Try.pinned (OpenSpec.ofChange fnExactSlimTextsWrong)

/-- 'laws.FnExactSlimPairs': WHATEVER THE INPUT: true; the input reads as it did. -/
def fnExactSlimPairsSpec : ChangeSpec := { name := "fnExactSlimPairs", fn := fun _ => fun
  | [d] => { results := [.lit (.bool true)], args := [d] }
  | _ => none }
def fnExactSlimPairsRow : OpenClaim := { program := "ytmmgomgpnkahjaa", sum := "85e39906a0bb6dde2a6e602e293463bbcc1133322df1a2eb586655c4c892de2a", func := "loop.example/shieling/laws.FnExactSlimPairs", spec := "fnExactSlimPairs", unfollowed := true, recurses := true, apart := false }
def FnExactSlimPairsSaid : Prop := fnExactSlimPairsRow.holds Try.pinned (OpenSpec.ofChange fnExactSlimPairsSpec)

/-- ITS FALSE NEIGHBOUR: 'it returns false'. Refute it at one input. -/
def fnExactSlimPairsWrong : ChangeSpec := { name := "fnExactSlimPairs", fn := fun _ => fun
  | [d] => { results := [.lit (.bool false)], args := [d] }
  | _ => none }
def FnExactSlimPairsWrongFalsely : Prop := fnExactSlimPairsRow.holds Try.pinned (OpenSpec.ofChange fnExactSlimPairsWrong)

/-- 'laws.FnExactSlimMoves': WHATEVER THE INPUT: true; the input reads as it did. -/
def fnExactSlimMovesSpec : ChangeSpec := { name := "fnExactSlimMoves", fn := fun _ => fun
  | [d] => { results := [.lit (.bool true)], args := [d] }
  | _ => none }
def fnExactSlimMovesRow : OpenClaim := { program := "ytmmgomgpnkahjaa", sum := "85e39906a0bb6dde2a6e602e293463bbcc1133322df1a2eb586655c4c892de2a", func := "loop.example/shieling/laws.FnExactSlimMoves", spec := "fnExactSlimMoves", unfollowed := true, recurses := true, apart := false }
def FnExactSlimMovesSaid : Prop := fnExactSlimMovesRow.holds Try.pinned (OpenSpec.ofChange fnExactSlimMovesSpec)

/-- ITS FALSE NEIGHBOUR: 'it returns false'. Refute it at one input. -/
def fnExactSlimMovesWrong : ChangeSpec := { name := "fnExactSlimMoves", fn := fun _ => fun
  | [d] => { results := [.lit (.bool false)], args := [d] }
  | _ => none }
def FnExactSlimMovesWrongFalsely : Prop := fnExactSlimMovesRow.holds Try.pinned (OpenSpec.ofChange fnExactSlimMovesWrong)

/-- 'laws.FnExactSlim': WHATEVER THE INPUT: true; the input reads as it did. -/
def fnExactSlimSpec : ChangeSpec := { name := "fnExactSlim", fn := fun _ => fun
  | [d] => { results := [.lit (.bool true)], args := [d] }
  | _ => none }
def fnExactSlimRow : OpenClaim := { program := "ytmmgomgpnkahjaa", sum := "85e39906a0bb6dde2a6e602e293463bbcc1133322df1a2eb586655c4c892de2a", func := "loop.example/shieling/laws.FnExactSlim", spec := "fnExactSlim", unfollowed := true, recurses := true, apart := false }
def FnExactSlimSaid : Prop := fnExactSlimRow.holds Try.pinned (OpenSpec.ofChange fnExactSlimSpec)

/-- ITS FALSE NEIGHBOUR: 'it returns false'. Refute it at one input. -/
def fnExactSlimWrong : ChangeSpec := { name := "fnExactSlim", fn := fun _ => fun
  | [d] => { results := [.lit (.bool false)], args := [d] }
  | _ => none }
def FnExactSlimWrongFalsely : Prop := fnExactSlimRow.holds Try.pinned (OpenSpec.ofChange fnExactSlimWrong)

/- THE SECOND FORM. 'bulk': how many values and letters a reading holds, each counted each time it is reached (what is shared counts as often as it is met; a slice's spare places count too). A statement '..UptoSaid' is the law's where the arguments, and the package variables that the reading takes, are together of bulk at most 1048576: NARROWER than '..Said'. Prove '..Said' where nothing that the law and all that it calls make is longer than what came in: it says more and counts as full. Else prove '..UptoSaid'. A law counts once. -/
mutual
def uptoBulk {H : Type} : DataW H → Nat
  | .lit (.string bytes) => bytes.length + 1
  | .lit _ => 1
  | .nil => 1
  | .ptr d => uptoBulk d + 1
  | .slice elems spare => uptoBulkAll elems + uptoBulkAll spare + 1
  | .agg parts => uptoBulkAll parts + 1
  | .iface _ d => uptoBulk d + 1
  | .map entries => uptoBulkEntries entries + 1
  | .held _ => 1
def uptoBulkAll {H : Type} : List (DataW H) → Nat
  | [] => 0
  | d :: r => uptoBulk d + uptoBulkAll r
def uptoBulkEntries {H : Type} : List (Lit × DataW H) → Nat
  | [] => 0
  | x :: r => uptoBulkEntry x + uptoBulkEntries r
def uptoBulkEntry {H : Type} : Lit × DataW H → Nat
  | (.string bytes, d) => bytes.length + uptoBulk d + 1
  | (_, d) => uptoBulk d + 1
 end
def uptoSmall : (H : Type) → List (DataW H) → Bool := fun _ ds => decide (uptoBulkAll ds ≤ 1048576)
def OpenSpec.upto (s : _root_.Go.ChangeSpec) : _root_.Go.OpenSpec := { _root_.Go.OpenSpec.ofChange s with cond := some uptoSmall }

/-- 'laws.FnSlimIds', WHERE WHAT IT READS IS OF BULK AT MOST 1048576: true; the input reads as it did. -/
def fnSlimIdsUptoRow : OpenClaim := { program := "ytmmgomgpnkahjaa", sum := "85e39906a0bb6dde2a6e602e293463bbcc1133322df1a2eb586655c4c892de2a", func := "loop.example/shieling/laws.FnSlimIds", spec := "fnSlimIds", unfollowed := true, recurses := true, apart := false, narrowed := true }
def FnSlimIdsUptoSaid : Prop := fnSlimIdsUptoRow.holds Try.pinned (OpenSpec.upto fnSlimIdsSpec)

/-- 'laws.FnSlimTexts', WHERE WHAT IT READS IS OF BULK AT MOST 1048576: true; the input reads as it did. -/
def fnSlimTextsUptoRow : OpenClaim := { program := "ytmmgomgpnkahjaa", sum := "85e39906a0bb6dde2a6e602e293463bbcc1133322df1a2eb586655c4c892de2a", func := "loop.example/shieling/laws.FnSlimTexts", spec := "fnSlimTexts", unfollowed := true, recurses := true, apart := false, narrowed := true }
def FnSlimTextsUptoSaid : Prop := fnSlimTextsUptoRow.holds Try.pinned (OpenSpec.upto fnSlimTextsSpec)

/-- 'laws.FnSlimPairs', WHERE WHAT IT READS IS OF BULK AT MOST 1048576: true; the input reads as it did. -/
def fnSlimPairsUptoRow : OpenClaim := { program := "ytmmgomgpnkahjaa", sum := "85e39906a0bb6dde2a6e602e293463bbcc1133322df1a2eb586655c4c892de2a", func := "loop.example/shieling/laws.FnSlimPairs", spec := "fnSlimPairs", unfollowed := true, recurses := true, apart := false, narrowed := true }
def FnSlimPairsUptoSaid : Prop := fnSlimPairsUptoRow.holds Try.pinned (OpenSpec.upto fnSlimPairsSpec)

/-- 'laws.FnSlimMoves', WHERE WHAT IT READS IS OF BULK AT MOST 1048576: true; the input reads as it did. -/
def fnSlimMovesUptoRow : OpenClaim := { program := "ytmmgomgpnkahjaa", sum := "85e39906a0bb6dde2a6e602e293463bbcc1133322df1a2eb586655c4c892de2a", func := "loop.example/shieling/laws.FnSlimMoves", spec := "fnSlimMoves", unfollowed := true, recurses := true, apart := false, narrowed := true }
def FnSlimMovesUptoSaid : Prop := fnSlimMovesUptoRow.holds Try.pinned (OpenSpec.upto fnSlimMovesSpec)

/-- 'laws.FnExactSlimTexts', WHERE WHAT IT READS IS OF BULK AT MOST 1048576: true; the input reads as it did. -/
def fnExactSlimTextsUptoRow : OpenClaim := { program := "ytmmgomgpnkahjaa", sum := "85e39906a0bb6dde2a6e602e293463bbcc1133322df1a2eb586655c4c892de2a", func := "loop.example/shieling/laws.FnExactSlimTexts", spec := "fnExactSlimTexts", unfollowed := true, recurses := true, apart := false, narrowed := true }
def FnExactSlimTextsUptoSaid : Prop := fnExactSlimTextsUptoRow.holds Try.pinned (OpenSpec.upto fnExactSlimTextsSpec)

/-- 'laws.FnExactSlimPairs', WHERE WHAT IT READS IS OF BULK AT MOST 1048576: true; the input reads as it did. -/
def fnExactSlimPairsUptoRow : OpenClaim := { program := "ytmmgomgpnkahjaa", sum := "85e39906a0bb6dde2a6e602e293463bbcc1133322df1a2eb586655c4c892de2a", func := "loop.example/shieling/laws.FnExactSlimPairs", spec := "fnExactSlimPairs", unfollowed := true, recurses := true, apart := false, narrowed := true }
def FnExactSlimPairsUptoSaid : Prop := fnExactSlimPairsUptoRow.holds Try.pinned (OpenSpec.upto fnExactSlimPairsSpec)

/-- 'laws.FnExactSlimMoves', WHERE WHAT IT READS IS OF BULK AT MOST 1048576: true; the input reads as it did. -/
def fnExactSlimMovesUptoRow : OpenClaim := { program := "ytmmgomgpnkahjaa", sum := "85e39906a0bb6dde2a6e602e293463bbcc1133322df1a2eb586655c4c892de2a", func := "loop.example/shieling/laws.FnExactSlimMoves", spec := "fnExactSlimMoves", unfollowed := true, recurses := true, apart := false, narrowed := true }
def FnExactSlimMovesUptoSaid : Prop := fnExactSlimMovesUptoRow.holds Try.pinned (OpenSpec.upto fnExactSlimMovesSpec)

/-- 'laws.FnExactSlim', WHERE WHAT IT READS IS OF BULK AT MOST 1048576: true; the input reads as it did. -/
def fnExactSlimUptoRow : OpenClaim := { program := "ytmmgomgpnkahjaa", sum := "85e39906a0bb6dde2a6e602e293463bbcc1133322df1a2eb586655c4c892de2a", func := "loop.example/shieling/laws.FnExactSlim", spec := "fnExactSlim", unfollowed := true, recurses := true, apart := false, narrowed := true }
def FnExactSlimUptoSaid : Prop := fnExactSlimUptoRow.holds Try.pinned (OpenSpec.upto fnExactSlimSpec)

end Rows
end Go.Proofs.Ytmmgomgpnkahjaa
