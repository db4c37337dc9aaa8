/-
  No cell of these rows narrows 'for every input' (looked for: loops, veiled, ifaces, maps, wideKeys, modest, calm, conditions, laid).
  DERIVED. THE GIVEN ROWS OF THIS SEAT. 3 by the template 'for every input the law returns true; each argument reads behind the call as it read before'; 0 by the template 'total and deterministic' (their statements: YtohimbdmhljocaaTotals.lean).
  GIVEN WITH THE SEED: the statements are not yours to turn. If you find one false, say at which input.
  Laid BY PROGRAM, IN A SANDBOX (cutbox-rows.mjs): the forced cells as the released guide's own fill.sh prints them over the translation fff07986b99cd39c… (all of the seat's roots in one cut). By AI agents, Wed Nov 11 2026. No macro, syntax, notation, axiom, sorry.
-/
import Derived.Test.YtohimbdmhljocaaChecked
import GoSem.Claim
import GoSem.ClaimJoined
import GoSem.ClaimMapViews
import Derived.JoinedTies
import Derived.KernelRfl
namespace Go.Proofs.Ytohimbdmhljocaa
/- THE CELL 'sum', in the pinned program and in every row, IS THE sha256 OF THE DUMP (.gsa) THAT YtohimbdmhljocaaProg.lean LOADS. Nothing in Lean hashes anything: it is a label: what it is worth is what the hold of that sum in a sandbox is worth. -/
noncomputable def Try.pinned : Pinned := { name := "ytohimbdmhljocaa", sum := "fff07986b99cd39cbf22e0f71488e05ebe2f5ba56a1316b571d0b6f619bb68f9", checked := Try.checked }
namespace Rows
def none {H : Type} : Left H := { results := [], args := [] }

/-- 'laws.FnExactToldHas': WHATEVER THE INPUT: true; the input reads as it did. -/
def fnExactToldHasSpec : ChangeSpec := { name := "fnExactToldHas", fn := fun _ => fun
  | [d1, d2, d3] => { results := [.lit (.bool true)], args := [d1, d2, d3] }
  | _ => none }
def fnExactToldHasRow : OpenClaim := { program := "ytohimbdmhljocaa", sum := "fff07986b99cd39cbf22e0f71488e05ebe2f5ba56a1316b571d0b6f619bb68f9", func := "loop.example/shieling/laws.FnExactToldHas", spec := "fnExactToldHas", plainKeys := false, apart := false }
def FnExactToldHasSaid : Prop := fnExactToldHasRow.holds Try.pinned (OpenSpec.ofChange fnExactToldHasSpec)

/-- ITS FALSE NEIGHBOUR: 'it returns false'. Refute it at one input. -/
def fnExactToldHasWrong : ChangeSpec := { name := "fnExactToldHas", fn := fun _ => fun
  | [d1, d2, d3] => { results := [.lit (.bool false)], args := [d1, d2, d3] }
  | _ => none }
def FnExactToldHasWrongFalsely : Prop := fnExactToldHasRow.holds Try.pinned (OpenSpec.ofChange fnExactToldHasWrong)

/-- 'laws.FnExactWorldOpen': WHATEVER THE INPUT: true; the input reads as it did. -/
def fnExactWorldOpenSpec : ChangeSpec := { name := "fnExactWorldOpen", fn := fun _ => fun
  | [] => { results := [.lit (.bool true)], args := [] }
  | _ => none }
def fnExactWorldOpenRow : OpenClaim := { program := "ytohimbdmhljocaa", sum := "fff07986b99cd39cbf22e0f71488e05ebe2f5ba56a1316b571d0b6f619bb68f9", func := "loop.example/shieling/laws.FnExactWorldOpen", spec := "fnExactWorldOpen", plainKeys := false, apart := false }
def FnExactWorldOpenSaid : Prop := fnExactWorldOpenRow.holds Try.pinned (OpenSpec.ofChange fnExactWorldOpenSpec)

/-- ITS FALSE NEIGHBOUR: 'it returns false'. Refute it at one input. -/
def fnExactWorldOpenWrong : ChangeSpec := { name := "fnExactWorldOpen", fn := fun _ => fun
  | [] => { results := [.lit (.bool false)], args := [] }
  | _ => none }
def FnExactWorldOpenWrongFalsely : Prop := fnExactWorldOpenRow.holds Try.pinned (OpenSpec.ofChange fnExactWorldOpenWrong)

/-- 'laws.FnExactWorldSame': WHATEVER THE INPUT: true; the input reads as it did. -/
def fnExactWorldSameSpec : ChangeSpec := { name := "fnExactWorldSame", fn := fun _ => fun
  | [d1, d2] => { results := [.lit (.bool true)], args := [d1, d2] }
  | _ => none }
def fnExactWorldSameRow : OpenClaim := { program := "ytohimbdmhljocaa", sum := "fff07986b99cd39cbf22e0f71488e05ebe2f5ba56a1316b571d0b6f619bb68f9", func := "loop.example/shieling/laws.FnExactWorldSame", spec := "fnExactWorldSame", unfollowed := true, recurses := true, plainKeys := false, apart := false }
def FnExactWorldSameSaid : Prop := fnExactWorldSameRow.holds Try.pinned (OpenSpec.ofChange fnExactWorldSameSpec)

/-- ITS FALSE NEIGHBOUR: 'it returns false'. Refute it at one input. -/
def fnExactWorldSameWrong : ChangeSpec := { name := "fnExactWorldSame", fn := fun _ => fun
  | [d1, d2] => { results := [.lit (.bool false)], args := [d1, d2] }
  | _ => none }
def FnExactWorldSameWrongFalsely : Prop := fnExactWorldSameRow.holds Try.pinned (OpenSpec.ofChange fnExactWorldSameWrong)

/- THE SECOND FORM. 'bulk': how many values and letters a reading holds, each counted each time it is reached (what is shared counts as often as it is met; a slice's spare places count too). A statement '..UptoSaid' is the law's where the arguments, and the package variables that the reading takes, are together of bulk at most 1048576: NARROWER than '..Said'. Prove '..Said' where nothing that the law and all that it calls make is longer than what came in: it says more and counts as full. Else prove '..UptoSaid'. A law counts once. -/
mutual
def uptoBulk {H : Type} : DataW H → Nat
  | .lit (.string bytes) => bytes.length + 1
  | .lit _ => 1
  | .nil => 1
  | .ptr d => uptoBulk d + 1
  | .slice elems spare => uptoBulkAll elems + uptoBulkAll spare + 1
  | .agg parts => uptoBulkAll parts + 1
  | .iface _ d => uptoBulk d + 1
  | .map entries => uptoBulkEntries entries + 1
  | .held _ => 1
def uptoBulkAll {H : Type} : List (DataW H) → Nat
  | [] => 0
  | d :: r => uptoBulk d + uptoBulkAll r
def uptoBulkEntries {H : Type} : List (Lit × DataW H) → Nat
  | [] => 0
  | x :: r => uptoBulkEntry x + uptoBulkEntries r
def uptoBulkEntry {H : Type} : Lit × DataW H → Nat
  | (.string bytes, d) => bytes.length + uptoBulk d + 1
  | (_, d) => uptoBulk d + 1
 end
def uptoSmall : (H : Type) → List (DataW H) → Bool := fun _ ds => decide (uptoBulkAll ds ≤ 1048576)
def OpenSpec.upto (s : _root_.Go.ChangeSpec) : _root_.Go.OpenSpec := { _root_.Go.OpenSpec.ofChange s with cond := some uptoSmall }

/-- 'laws.FnExactToldHas', WHERE WHAT IT READS IS OF BULK AT MOST 1048576: true; the input reads as it did. -/
def fnExactToldHasUptoRow : OpenClaim := { program := "ytohimbdmhljocaa", sum := "fff07986b99cd39cbf22e0f71488e05ebe2f5ba56a1316b571d0b6f619bb68f9", func := "loop.example/shieling/laws.FnExactToldHas", spec := "fnExactToldHas", plainKeys := false, apart := false, narrowed := true }
def FnExactToldHasUptoSaid : Prop := fnExactToldHasUptoRow.holds Try.pinned (OpenSpec.upto fnExactToldHasSpec)

/-- 'laws.FnExactWorldOpen', WHERE WHAT IT READS IS OF BULK AT MOST 1048576: true; the input reads as it did. -/
def fnExactWorldOpenUptoRow : OpenClaim := { program := "ytohimbdmhljocaa", sum := "fff07986b99cd39cbf22e0f71488e05ebe2f5ba56a1316b571d0b6f619bb68f9", func := "loop.example/shieling/laws.FnExactWorldOpen", spec := "fnExactWorldOpen", plainKeys := false, apart := false, narrowed := true }
def FnExactWorldOpenUptoSaid : Prop := fnExactWorldOpenUptoRow.holds Try.pinned (OpenSpec.upto fnExactWorldOpenSpec)

/-- 'laws.FnExactWorldSame', WHERE WHAT IT READS IS OF BULK AT MOST 1048576: true; the input reads as it did. -/
def fnExactWorldSameUptoRow : OpenClaim := { program := "ytohimbdmhljocaa", sum := "fff07986b99cd39cbf22e0f71488e05ebe2f5ba56a1316b571d0b6f619bb68f9", func := "loop.example/shieling/laws.FnExactWorldSame", spec := "fnExactWorldSame", unfollowed := true, recurses := true, plainKeys := false, apart := false, narrowed := true }
def FnExactWorldSameUptoSaid : Prop := fnExactWorldSameUptoRow.holds Try.pinned (OpenSpec.upto fnExactWorldSameSpec)

end Rows
end Go.Proofs.Ytohimbdmhljocaa
