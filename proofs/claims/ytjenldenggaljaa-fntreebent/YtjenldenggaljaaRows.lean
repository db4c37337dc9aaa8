/-
  No cell of these rows narrows 'for every input' (looked for: loops, veiled, ifaces, maps, wideKeys, modest, calm, conditions, laid).
  DERIVED. THE GIVEN ROWS OF THIS SEAT. 20 by the template 'for every input the law returns true; each argument reads behind the call as it read before'; 0 by the template 'total and deterministic' (their statements: YtjenldenggaljaaTotals.lean).
  GIVEN WITH THE SEED: the statements are not yours to turn. If you find one false, say at which input.
  Laid BY PROGRAM, IN A SANDBOX (cutbox-rows.mjs): the forced cells as the released guide's own fill.sh prints them over the translation 96388f83c6965174… (all of the seat's roots in one cut). By AI agents, Wed Nov 11 2026. No macro, syntax, notation, axiom, sorry.
-/
import Derived.Test.YtjenldenggaljaaChecked
import GoSem.Claim
import GoSem.ClaimJoined
import GoSem.ClaimMapViews
import Derived.JoinedTies
import Derived.KernelRfl
namespace Go.Proofs.Ytjenldenggaljaa
/- THE CELL 'sum', in the pinned program and in every row, IS THE sha256 OF THE DUMP (.gsa) THAT YtjenldenggaljaaProg.lean LOADS. Nothing in Lean hashes anything: it is a label: what it is worth is what the hold of that sum in a sandbox is worth. -/
noncomputable def Try.pinned : Pinned := { name := "ytjenldenggaljaa", sum := "96388f83c696517441351417e8edf6643a0e22dab26c2b1be71b3690a0387748", checked := Try.checked }
namespace Rows
def none {H : Type} : Left H := { results := [], args := [] }

/-- 'laws.FnTree': WHATEVER THE INPUT: true; the input reads as it did. -/
def fnTreeSpec : ChangeSpec := { name := "fnTree", fn := fun _ => fun
  | [d] => { results := [.lit (.bool true)], args := [d] }
  | _ => none }
def fnTreeRow : OpenClaim := { program := "ytjenldenggaljaa", sum := "96388f83c696517441351417e8edf6643a0e22dab26c2b1be71b3690a0387748", func := "loop.example/shieling/laws.FnTree", spec := "fnTree", inPlace := ["internal/bytealg.abigen_runtime_cmpstring"], unfollowed := true, recurses := true, apart := false }
def FnTreeSaid : Prop := fnTreeRow.holds Try.pinned (OpenSpec.ofChange fnTreeSpec)

/-- ITS FALSE NEIGHBOUR: 'it returns false'. Refute it at one input. -/
def fnTreeWrong : ChangeSpec := { name := "fnTree", fn := fun _ => fun
  | [d] => { results := [.lit (.bool false)], args := [d] }
  | _ => none }
def FnTreeWrongFalsely : Prop := fnTreeRow.holds Try.pinned (OpenSpec.ofChange fnTreeWrong)

/-- 'laws.FnTreeSame': WHATEVER THE INPUT: true; the input reads as it did. -/
def fnTreeSameSpec : ChangeSpec := { name := "fnTreeSame", fn := fun _ => fun
  | [d] => { results := [.lit (.bool true)], args := [d] }
  | _ => none }
def fnTreeSameRow : OpenClaim := { program := "ytjenldenggaljaa", sum := "96388f83c696517441351417e8edf6643a0e22dab26c2b1be71b3690a0387748", func := "loop.example/shieling/laws.FnTreeSame", spec := "fnTreeSame", unfollowed := true, recurses := true, apart := false }
def FnTreeSameSaid : Prop := fnTreeSameRow.holds Try.pinned (OpenSpec.ofChange fnTreeSameSpec)

/-- ITS FALSE NEIGHBOUR: 'it returns false'. Refute it at one input. -/
def fnTreeSameWrong : ChangeSpec := { name := "fnTreeSame", fn := fun _ => fun
  | [d] => { results := [.lit (.bool false)], args := [d] }
  | _ => none }
def FnTreeSameWrongFalsely : Prop := fnTreeSameRow.holds Try.pinned (OpenSpec.ofChange fnTreeSameWrong)

/-- 'laws.FnTreeUnder': WHATEVER THE INPUT: true; the input reads as it did. -/
def fnTreeUnderSpec : ChangeSpec := { name := "fnTreeUnder", fn := fun _ => fun
  | [d] => { results := [.lit (.bool true)], args := [d] }
  | _ => none }
def fnTreeUnderRow : OpenClaim := { program := "ytjenldenggaljaa", sum := "96388f83c696517441351417e8edf6643a0e22dab26c2b1be71b3690a0387748", func := "loop.example/shieling/laws.FnTreeUnder", spec := "fnTreeUnder", apart := false }
def FnTreeUnderSaid : Prop := fnTreeUnderRow.holds Try.pinned (OpenSpec.ofChange fnTreeUnderSpec)

/-- ITS FALSE NEIGHBOUR: 'it returns false'. Refute it at one input. -/
def fnTreeUnderWrong : ChangeSpec := { name := "fnTreeUnder", fn := fun _ => fun
  | [d] => { results := [.lit (.bool false)], args := [d] }
  | _ => none }
def FnTreeUnderWrongFalsely : Prop := fnTreeUnderRow.holds Try.pinned (OpenSpec.ofChange fnTreeUnderWrong)

/-- 'laws.FnTreeWord': WHATEVER THE INPUT: true; the input reads as it did. -/
def fnTreeWordSpec : ChangeSpec := { name := "fnTreeWord", fn := fun _ => fun
  | [d] => { results := [.lit (.bool true)], args := [d] }
  | _ => none }
def fnTreeWordRow : OpenClaim := { program := "ytjenldenggaljaa", sum := "96388f83c696517441351417e8edf6643a0e22dab26c2b1be71b3690a0387748", func := "loop.example/shieling/laws.FnTreeWord", spec := "fnTreeWord", apart := false }
def FnTreeWordSaid : Prop := fnTreeWordRow.holds Try.pinned (OpenSpec.ofChange fnTreeWordSpec)

/-- ITS FALSE NEIGHBOUR: 'it returns false'. Refute it at one input. -/
def fnTreeWordWrong : ChangeSpec := { name := "fnTreeWord", fn := fun _ => fun
  | [d] => { results := [.lit (.bool false)], args := [d] }
  | _ => none }
def FnTreeWordWrongFalsely : Prop := fnTreeWordRow.holds Try.pinned (OpenSpec.ofChange fnTreeWordWrong)

/-- 'laws.FnTreeHome': WHATEVER THE INPUT: true; the input reads as it did. -/
def fnTreeHomeSpec : ChangeSpec := { name := "fnTreeHome", fn := fun _ => fun
  | [d] => { results := [.lit (.bool true)], args := [d] }
  | _ => none }
def fnTreeHomeRow : OpenClaim := { program := "ytjenldenggaljaa", sum := "96388f83c696517441351417e8edf6643a0e22dab26c2b1be71b3690a0387748", func := "loop.example/shieling/laws.FnTreeHome", spec := "fnTreeHome", apart := false }
def FnTreeHomeSaid : Prop := fnTreeHomeRow.holds Try.pinned (OpenSpec.ofChange fnTreeHomeSpec)

/-- ITS FALSE NEIGHBOUR: 'it returns false'. Refute it at one input. -/
def fnTreeHomeWrong : ChangeSpec := { name := "fnTreeHome", fn := fun _ => fun
  | [d] => { results := [.lit (.bool false)], args := [d] }
  | _ => none }
def FnTreeHomeWrongFalsely : Prop := fnTreeHomeRow.holds Try.pinned (OpenSpec.ofChange fnTreeHomeWrong)

/-- 'laws.FnTreeBent': WHATEVER THE INPUT: true; the input reads as it did. -/
def fnTreeBentSpec : ChangeSpec := { name := "fnTreeBent", fn := fun _ => fun
  | [d] => { results := [.lit (.bool true)], args := [d] }
  | _ => none }
def fnTreeBentRow : OpenClaim := { program := "ytjenldenggaljaa", sum := "96388f83c696517441351417e8edf6643a0e22dab26c2b1be71b3690a0387748", func := "loop.example/shieling/laws.FnTreeBent", spec := "fnTreeBent", inPlace := ["internal/bytealg.abigen_runtime_cmpstring"], unfollowed := true, recurses := true, apart := false }
def FnTreeBentSaid : Prop := fnTreeBentRow.holds Try.pinned (OpenSpec.ofChange fnTreeBentSpec)

/-- ITS FALSE NEIGHBOUR: 'it returns false'. Refute it at one input. -/
def fnTreeBentWrong : ChangeSpec := { name := "fnTreeBent", fn := fun _ => fun
  | [d] => { results := [.lit (.bool false)], args := [d] }
  | _ => none }
def FnTreeBentWrongFalsely : Prop := fnTreeBentRow.holds Try.pinned (OpenSpec.ofChange fnTreeBentWrong)

/-- 'laws.FnExactTreeOpen': WHATEVER THE INPUT: true; the input reads as it did. -/
def fnExactTreeOpenSpec : ChangeSpec := { name := "fnExactTreeOpen", fn := fun _ => fun
  | [] => { results := [.lit (.bool true)], args := [] }
  | _ => none }
def fnExactTreeOpenRow : OpenClaim := { program := "ytjenldenggaljaa", sum := "96388f83c696517441351417e8edf6643a0e22dab26c2b1be71b3690a0387748", func := "loop.example/shieling/laws.FnExactTreeOpen", spec := "fnExactTreeOpen", apart := false }
def FnExactTreeOpenSaid : Prop := fnExactTreeOpenRow.holds Try.pinned (OpenSpec.ofChange fnExactTreeOpenSpec)

/-- ITS FALSE NEIGHBOUR: 'it returns false'. Refute it at one input. -/
def fnExactTreeOpenWrong : ChangeSpec := { name := "fnExactTreeOpen", fn := fun _ => fun
  | [] => { results := [.lit (.bool false)], args := [] }
  | _ => none }
def FnExactTreeOpenWrongFalsely : Prop := fnExactTreeOpenRow.holds Try.pinned (OpenSpec.ofChange fnExactTreeOpenWrong)

/-- 'laws.FnExactTreeWord': WHATEVER THE INPUT: true; the input reads as it did. -/
def fnExactTreeWordSpec : ChangeSpec := { name := "fnExactTreeWord", fn := fun _ => fun
  | [d] => { results := [.lit (.bool true)], args := [d] }
  | _ => none }
def fnExactTreeWordRow : OpenClaim := { program := "ytjenldenggaljaa", sum := "96388f83c696517441351417e8edf6643a0e22dab26c2b1be71b3690a0387748", func := "loop.example/shieling/laws.FnExactTreeWord", spec := "fnExactTreeWord", apart := false }
def FnExactTreeWordSaid : Prop := fnExactTreeWordRow.holds Try.pinned (OpenSpec.ofChange fnExactTreeWordSpec)

/-- ITS FALSE NEIGHBOUR: 'it returns false'. Refute it at one input. -/
def fnExactTreeWordWrong : ChangeSpec := { name := "fnExactTreeWord", fn := fun _ => fun
  | [d] => { results := [.lit (.bool false)], args := [d] }
  | _ => none }
def FnExactTreeWordWrongFalsely : Prop := fnExactTreeWordRow.holds Try.pinned (OpenSpec.ofChange fnExactTreeWordWrong)

/-- 'laws.FnExactTreeBody': WHATEVER THE INPUT: true; the input reads as it did. -/
def fnExactTreeBodySpec : ChangeSpec := { name := "fnExactTreeBody", fn := fun _ => fun
  | [d] => { results := [.lit (.bool true)], args := [d] }
  | _ => none }
def fnExactTreeBodyRow : OpenClaim := { program := "ytjenldenggaljaa", sum := "96388f83c696517441351417e8edf6643a0e22dab26c2b1be71b3690a0387748", func := "loop.example/shieling/laws.FnExactTreeBody", spec := "fnExactTreeBody", apart := false }
def FnExactTreeBodySaid : Prop := fnExactTreeBodyRow.holds Try.pinned (OpenSpec.ofChange fnExactTreeBodySpec)

/-- ITS FALSE NEIGHBOUR: 'it returns false'. Refute it at one input. -/
def fnExactTreeBodyWrong : ChangeSpec := { name := "fnExactTreeBody", fn := fun _ => fun
  | [d] => { results := [.lit (.bool false)], args := [d] }
  | _ => none }
def FnExactTreeBodyWrongFalsely : Prop := fnExactTreeBodyRow.holds Try.pinned (OpenSpec.ofChange fnExactTreeBodyWrong)

/-- 'laws.FnExactTreeOk': WHATEVER THE INPUT: true; the input reads as it did. -/
def fnExactTreeOkSpec : ChangeSpec := { name := "fnExactTreeOk", fn := fun _ => fun
  | [d] => { results := [.lit (.bool true)], args := [d] }
  | _ => none }
def fnExactTreeOkRow : OpenClaim := { program := "ytjenldenggaljaa", sum := "96388f83c696517441351417e8edf6643a0e22dab26c2b1be71b3690a0387748", func := "loop.example/shieling/laws.FnExactTreeOk", spec := "fnExactTreeOk", apart := false }
def FnExactTreeOkSaid : Prop := fnExactTreeOkRow.holds Try.pinned (OpenSpec.ofChange fnExactTreeOkSpec)

/-- ITS FALSE NEIGHBOUR: 'it returns false'. Refute it at one input. -/
def fnExactTreeOkWrong : ChangeSpec := { name := "fnExactTreeOk", fn := fun _ => fun
  | [d] => { results := [.lit (.bool false)], args := [d] }
  | _ => none }
def FnExactTreeOkWrongFalsely : Prop := fnExactTreeOkRow.holds Try.pinned (OpenSpec.ofChange fnExactTreeOkWrong)

/-- 'laws.FnExactTreeSame': WHATEVER THE INPUT: true; the input reads as it did. -/
def fnExactTreeSameSpec : ChangeSpec := { name := "fnExactTreeSame", fn := fun _ => fun
  | [d1, d2] => { results := [.lit (.bool true)], args := [d1, d2] }
  | _ => none }
def fnExactTreeSameRow : OpenClaim := { program := "ytjenldenggaljaa", sum := "96388f83c696517441351417e8edf6643a0e22dab26c2b1be71b3690a0387748", func := "loop.example/shieling/laws.FnExactTreeSame", spec := "fnExactTreeSame", unfollowed := true, recurses := true, apart := false }
def FnExactTreeSameSaid : Prop := fnExactTreeSameRow.holds Try.pinned (OpenSpec.ofChange fnExactTreeSameSpec)

/-- ITS FALSE NEIGHBOUR: 'it returns false'. Refute it at one input. -/
def fnExactTreeSameWrong : ChangeSpec := { name := "fnExactTreeSame", fn := fun _ => fun
  | [d1, d2] => { results := [.lit (.bool false)], args := [d1, d2] }
  | _ => none }
def FnExactTreeSameWrongFalsely : Prop := fnExactTreeSameRow.holds Try.pinned (OpenSpec.ofChange fnExactTreeSameWrong)

/-- 'laws.FnExactTreeLike': WHATEVER THE INPUT: true; the input reads as it did. -/
def fnExactTreeLikeSpec : ChangeSpec := { name := "fnExactTreeLike", fn := fun _ => fun
  | [d1, d2] => { results := [.lit (.bool true)], args := [d1, d2] }
  | _ => none }
def fnExactTreeLikeRow : OpenClaim := { program := "ytjenldenggaljaa", sum := "96388f83c696517441351417e8edf6643a0e22dab26c2b1be71b3690a0387748", func := "loop.example/shieling/laws.FnExactTreeLike", spec := "fnExactTreeLike", unfollowed := true, recurses := true, apart := false }
def FnExactTreeLikeSaid : Prop := fnExactTreeLikeRow.holds Try.pinned (OpenSpec.ofChange fnExactTreeLikeSpec)

/-- ITS FALSE NEIGHBOUR: 'it returns false'. Refute it at one input. -/
def fnExactTreeLikeWrong : ChangeSpec := { name := "fnExactTreeLike", fn := fun _ => fun
  | [d1, d2] => { results := [.lit (.bool false)], args := [d1, d2] }
  | _ => none }
def FnExactTreeLikeWrongFalsely : Prop := fnExactTreeLikeRow.holds Try.pinned (OpenSpec.ofChange fnExactTreeLikeWrong)

/-- 'laws.FnExactTreeFind': WHATEVER THE INPUT: true; the input reads as it did. -/
def fnExactTreeFindSpec : ChangeSpec := { name := "fnExactTreeFind", fn := fun _ => fun
  | [d1, d2, d3] => { results := [.lit (.bool true)], args := [d1, d2, d3] }
  | _ => none }
def fnExactTreeFindRow : OpenClaim := { program := "ytjenldenggaljaa", sum := "96388f83c696517441351417e8edf6643a0e22dab26c2b1be71b3690a0387748", func := "loop.example/shieling/laws.FnExactTreeFind", spec := "fnExactTreeFind", inPlace := ["internal/bytealg.abigen_runtime_cmpstring"], unfollowed := true, recurses := true, apart := false }
def FnExactTreeFindSaid : Prop := fnExactTreeFindRow.holds Try.pinned (OpenSpec.ofChange fnExactTreeFindSpec)

/-- ITS FALSE NEIGHBOUR: 'it returns false'. Refute it at one input. -/
def fnExactTreeFindWrong : ChangeSpec := { name := "fnExactTreeFind", fn := fun _ => fun
  | [d1, d2, d3] => { results := [.lit (.bool false)], args := [d1, d2, d3] }
  | _ => none }
def FnExactTreeFindWrongFalsely : Prop := fnExactTreeFindRow.holds Try.pinned (OpenSpec.ofChange fnExactTreeFindWrong)

/-- 'laws.FnExactTreeHome': WHATEVER THE INPUT: true; the input reads as it did. -/
def fnExactTreeHomeSpec : ChangeSpec := { name := "fnExactTreeHome", fn := fun _ => fun
  | [d1, d2] => { results := [.lit (.bool true)], args := [d1, d2] }
  | _ => none }
def fnExactTreeHomeRow : OpenClaim := { program := "ytjenldenggaljaa", sum := "96388f83c696517441351417e8edf6643a0e22dab26c2b1be71b3690a0387748", func := "loop.example/shieling/laws.FnExactTreeHome", spec := "fnExactTreeHome", apart := false }
def FnExactTreeHomeSaid : Prop := fnExactTreeHomeRow.holds Try.pinned (OpenSpec.ofChange fnExactTreeHomeSpec)

/-- ITS FALSE NEIGHBOUR: 'it returns false'. Refute it at one input. -/
def fnExactTreeHomeWrong : ChangeSpec := { name := "fnExactTreeHome", fn := fun _ => fun
  | [d1, d2] => { results := [.lit (.bool false)], args := [d1, d2] }
  | _ => none }
def FnExactTreeHomeWrongFalsely : Prop := fnExactTreeHomeRow.holds Try.pinned (OpenSpec.ofChange fnExactTreeHomeWrong)

/-- 'laws.FnExactTreeUnder': WHATEVER THE INPUT: true; the input reads as it did. -/
def fnExactTreeUnderSpec : ChangeSpec := { name := "fnExactTreeUnder", fn := fun _ => fun
  | [d1, d2, d3] => { results := [.lit (.bool true)], args := [d1, d2, d3] }
  | _ => none }
def fnExactTreeUnderRow : OpenClaim := { program := "ytjenldenggaljaa", sum := "96388f83c696517441351417e8edf6643a0e22dab26c2b1be71b3690a0387748", func := "loop.example/shieling/laws.FnExactTreeUnder", spec := "fnExactTreeUnder", apart := false }
def FnExactTreeUnderSaid : Prop := fnExactTreeUnderRow.holds Try.pinned (OpenSpec.ofChange fnExactTreeUnderSpec)

/-- ITS FALSE NEIGHBOUR: 'it returns false'. Refute it at one input. -/
def fnExactTreeUnderWrong : ChangeSpec := { name := "fnExactTreeUnder", fn := fun _ => fun
  | [d1, d2, d3] => { results := [.lit (.bool false)], args := [d1, d2, d3] }
  | _ => none }
def FnExactTreeUnderWrongFalsely : Prop := fnExactTreeUnderRow.holds Try.pinned (OpenSpec.ofChange fnExactTreeUnderWrong)

/-- 'laws.FnExactTreePath': WHATEVER THE INPUT: true; the input reads as it did. -/
def fnExactTreePathSpec : ChangeSpec := { name := "fnExactTreePath", fn := fun _ => fun
  | [d1, d2] => { results := [.lit (.bool true)], args := [d1, d2] }
  | _ => none }
def fnExactTreePathRow : OpenClaim := { program := "ytjenldenggaljaa", sum := "96388f83c696517441351417e8edf6643a0e22dab26c2b1be71b3690a0387748", func := "loop.example/shieling/laws.FnExactTreePath", spec := "fnExactTreePath", apart := false }
def FnExactTreePathSaid : Prop := fnExactTreePathRow.holds Try.pinned (OpenSpec.ofChange fnExactTreePathSpec)

/-- ITS FALSE NEIGHBOUR: 'it returns false'. Refute it at one input. -/
def fnExactTreePathWrong : ChangeSpec := { name := "fnExactTreePath", fn := fun _ => fun
  | [d1, d2] => { results := [.lit (.bool false)], args := [d1, d2] }
  | _ => none }
def FnExactTreePathWrongFalsely : Prop := fnExactTreePathRow.holds Try.pinned (OpenSpec.ofChange fnExactTreePathWrong)

/-- 'laws.FnExactOpOk': WHATEVER THE INPUT: true; the input reads as it did. -/
def fnExactOpOkSpec : ChangeSpec := { name := "fnExactOpOk", fn := fun _ => fun
  | [d] => { results := [.lit (.bool true)], args := [d] }
  | _ => none }
def fnExactOpOkRow : OpenClaim := { program := "ytjenldenggaljaa", sum := "96388f83c696517441351417e8edf6643a0e22dab26c2b1be71b3690a0387748", func := "loop.example/shieling/laws.FnExactOpOk", spec := "fnExactOpOk", apart := false }
def FnExactOpOkSaid : Prop := fnExactOpOkRow.holds Try.pinned (OpenSpec.ofChange fnExactOpOkSpec)

/-- ITS FALSE NEIGHBOUR: 'it returns false'. Refute it at one input. -/
def fnExactOpOkWrong : ChangeSpec := { name := "fnExactOpOk", fn := fun _ => fun
  | [d] => { results := [.lit (.bool false)], args := [d] }
  | _ => none }
def FnExactOpOkWrongFalsely : Prop := fnExactOpOkRow.holds Try.pinned (OpenSpec.ofChange fnExactOpOkWrong)

/-- 'laws.FnExactOpIds': WHATEVER THE INPUT: true; the input reads as it did. -/
def fnExactOpIdsSpec : ChangeSpec := { name := "fnExactOpIds", fn := fun _ => fun
  | [d] => { results := [.lit (.bool true)], args := [d] }
  | _ => none }
def fnExactOpIdsRow : OpenClaim := { program := "ytjenldenggaljaa", sum := "96388f83c696517441351417e8edf6643a0e22dab26c2b1be71b3690a0387748", func := "loop.example/shieling/laws.FnExactOpIds", spec := "fnExactOpIds", apart := false }
def FnExactOpIdsSaid : Prop := fnExactOpIdsRow.holds Try.pinned (OpenSpec.ofChange fnExactOpIdsSpec)

/-- ITS FALSE NEIGHBOUR: 'it returns false'. Refute it at one input. -/
def fnExactOpIdsWrong : ChangeSpec := { name := "fnExactOpIds", fn := fun _ => fun
  | [d] => { results := [.lit (.bool false)], args := [d] }
  | _ => none }
def FnExactOpIdsWrongFalsely : Prop := fnExactOpIdsRow.holds Try.pinned (OpenSpec.ofChange fnExactOpIdsWrong)

/-- 'laws.FnExactOpSame': WHATEVER THE INPUT: true; the input reads as it did. -/
def fnExactOpSameSpec : ChangeSpec := { name := "fnExactOpSame", fn := fun _ => fun
  | [d1, d2] => { results := [.lit (.bool true)], args := [d1, d2] }
  | _ => none }
def fnExactOpSameRow : OpenClaim := { program := "ytjenldenggaljaa", sum := "96388f83c696517441351417e8edf6643a0e22dab26c2b1be71b3690a0387748", func := "loop.example/shieling/laws.FnExactOpSame", spec := "fnExactOpSame", apart := false }
def FnExactOpSameSaid : Prop := fnExactOpSameRow.holds Try.pinned (OpenSpec.ofChange fnExactOpSameSpec)

/-- ITS FALSE NEIGHBOUR: 'it returns false'. Refute it at one input. -/
def fnExactOpSameWrong : ChangeSpec := { name := "fnExactOpSame", fn := fun _ => fun
  | [d1, d2] => { results := [.lit (.bool false)], args := [d1, d2] }
  | _ => none }
def FnExactOpSameWrongFalsely : Prop := fnExactOpSameRow.holds Try.pinned (OpenSpec.ofChange fnExactOpSameWrong)

/-- 'laws.FnExactActFresh': WHATEVER THE INPUT: true; the input reads as it did. -/
def fnExactActFreshSpec : ChangeSpec := { name := "fnExactActFresh", fn := fun _ => fun
  | [d1, d2] => { results := [.lit (.bool true)], args := [d1, d2] }
  | _ => none }
def fnExactActFreshRow : OpenClaim := { program := "ytjenldenggaljaa", sum := "96388f83c696517441351417e8edf6643a0e22dab26c2b1be71b3690a0387748", func := "loop.example/shieling/laws.FnExactActFresh", spec := "fnExactActFresh", apart := false }
def FnExactActFreshSaid : Prop := fnExactActFreshRow.holds Try.pinned (OpenSpec.ofChange fnExactActFreshSpec)

/-- ITS FALSE NEIGHBOUR: 'it returns false'. Refute it at one input. -/
def fnExactActFreshWrong : ChangeSpec := { name := "fnExactActFresh", fn := fun _ => fun
  | [d1, d2] => { results := [.lit (.bool false)], args := [d1, d2] }
  | _ => none }
def FnExactActFreshWrongFalsely : Prop := fnExactActFreshRow.holds Try.pinned (OpenSpec.ofChange fnExactActFreshWrong)

/- THE SECOND FORM. 'bulk': how many values and letters a reading holds, each counted each time it is reached (what is shared counts as often as it is met; a slice's spare places count too). A statement '..UptoSaid' is the law's where the arguments, and the package variables that the reading takes, are together of bulk at most 1048576: NARROWER than '..Said'. Prove '..Said' where nothing that the law and all that it calls make is longer than what came in: it says more and counts as full. Else prove '..UptoSaid'. A law counts once. -/
mutual
def uptoBulk {H : Type} : DataW H → Nat
  | .lit (.string bytes) => bytes.length + 1
  | .lit _ => 1
  | .nil => 1
  | .ptr d => uptoBulk d + 1
  | .slice elems spare => uptoBulkAll elems + uptoBulkAll spare + 1
  | .agg parts => uptoBulkAll parts + 1
  | .iface _ d => uptoBulk d + 1
  | .map entries => uptoBulkEntries entries + 1
  | .held _ => 1
def uptoBulkAll {H : Type} : List (DataW H) → Nat
  | [] => 0
  | d :: r => uptoBulk d + uptoBulkAll r
def uptoBulkEntries {H : Type} : List (Lit × DataW H) → Nat
  | [] => 0
  | x :: r => uptoBulkEntry x + uptoBulkEntries r
def uptoBulkEntry {H : Type} : Lit × DataW H → Nat
  | (.string bytes, d) => bytes.length + uptoBulk d + 1
  | (_, d) => uptoBulk d + 1
 end
def uptoSmall : (H : Type) → List (DataW H) → Bool := fun _ ds => decide (uptoBulkAll ds ≤ 1048576)
def OpenSpec.upto (s : _root_.Go.ChangeSpec) : _root_.Go.OpenSpec := { _root_.Go.OpenSpec.ofChange s with cond := some uptoSmall }

/-- 'laws.FnTree', WHERE WHAT IT READS IS OF BULK AT MOST 1048576: true; the input reads as it did. -/
def fnTreeUptoRow : OpenClaim := { program := "ytjenldenggaljaa", sum := "96388f83c696517441351417e8edf6643a0e22dab26c2b1be71b3690a0387748", func := "loop.example/shieling/laws.FnTree", spec := "fnTree", inPlace := ["internal/bytealg.abigen_runtime_cmpstring"], unfollowed := true, recurses := true, apart := false, narrowed := true }
def FnTreeUptoSaid : Prop := fnTreeUptoRow.holds Try.pinned (OpenSpec.upto fnTreeSpec)

/-- 'laws.FnTreeSame', WHERE WHAT IT READS IS OF BULK AT MOST 1048576: true; the input reads as it did. -/
def fnTreeSameUptoRow : OpenClaim := { program := "ytjenldenggaljaa", sum := "96388f83c696517441351417e8edf6643a0e22dab26c2b1be71b3690a0387748", func := "loop.example/shieling/laws.FnTreeSame", spec := "fnTreeSame", unfollowed := true, recurses := true, apart := false, narrowed := true }
def FnTreeSameUptoSaid : Prop := fnTreeSameUptoRow.holds Try.pinned (OpenSpec.upto fnTreeSameSpec)

/-- 'laws.FnTreeUnder', WHERE WHAT IT READS IS OF BULK AT MOST 1048576: true; the input reads as it did. -/
def fnTreeUnderUptoRow : OpenClaim := { program := "ytjenldenggaljaa", sum := "96388f83c696517441351417e8edf6643a0e22dab26c2b1be71b3690a0387748", func := "loop.example/shieling/laws.FnTreeUnder", spec := "fnTreeUnder", apart := false, narrowed := true }
def FnTreeUnderUptoSaid : Prop := fnTreeUnderUptoRow.holds Try.pinned (OpenSpec.upto fnTreeUnderSpec)

/-- 'laws.FnTreeWord', WHERE WHAT IT READS IS OF BULK AT MOST 1048576: true; the input reads as it did. -/
def fnTreeWordUptoRow : OpenClaim := { program := "ytjenldenggaljaa", sum := "96388f83c696517441351417e8edf6643a0e22dab26c2b1be71b3690a0387748", func := "loop.example/shieling/laws.FnTreeWord", spec := "fnTreeWord", apart := false, narrowed := true }
def FnTreeWordUptoSaid : Prop := fnTreeWordUptoRow.holds Try.pinned (OpenSpec.upto fnTreeWordSpec)

/-- 'laws.FnTreeHome', WHERE WHAT IT READS IS OF BULK AT MOST 1048576: true; the input reads as it did. -/
def fnTreeHomeUptoRow : OpenClaim := { program := "ytjenldenggaljaa", sum := "96388f83c696517441351417e8edf6643a0e22dab26c2b1be71b3690a0387748", func := "loop.example/shieling/laws.FnTreeHome", spec := "fnTreeHome", apart := false, narrowed := true }
def FnTreeHomeUptoSaid : Prop := fnTreeHomeUptoRow.holds Try.pinned (OpenSpec.upto fnTreeHomeSpec)

/-- 'laws.FnTreeBent', WHERE WHAT IT READS IS OF BULK AT MOST 1048576: true; the input reads as it did. -/
def fnTreeBentUptoRow : OpenClaim := { program := "ytjenldenggaljaa", sum := "96388f83c696517441351417e8edf6643a0e22dab26c2b1be71b3690a0387748", func := "loop.example/shieling/laws.FnTreeBent", spec := "fnTreeBent", inPlace := ["internal/bytealg.abigen_runtime_cmpstring"], unfollowed := true, recurses := true, apart := false, narrowed := true }
def FnTreeBentUptoSaid : Prop := fnTreeBentUptoRow.holds Try.pinned (OpenSpec.upto fnTreeBentSpec)

/-- 'laws.FnExactTreeOpen', WHERE WHAT IT READS IS OF BULK AT MOST 1048576: true; the input reads as it did. -/
def fnExactTreeOpenUptoRow : OpenClaim := { program := "ytjenldenggaljaa", sum := "96388f83c696517441351417e8edf6643a0e22dab26c2b1be71b3690a0387748", func := "loop.example/shieling/laws.FnExactTreeOpen", spec := "fnExactTreeOpen", apart := false, narrowed := true }
def FnExactTreeOpenUptoSaid : Prop := fnExactTreeOpenUptoRow.holds Try.pinned (OpenSpec.upto fnExactTreeOpenSpec)

/-- 'laws.FnExactTreeWord', WHERE WHAT IT READS IS OF BULK AT MOST 1048576: true; the input reads as it did. -/
def fnExactTreeWordUptoRow : OpenClaim := { program := "ytjenldenggaljaa", sum := "96388f83c696517441351417e8edf6643a0e22dab26c2b1be71b3690a0387748", func := "loop.example/shieling/laws.FnExactTreeWord", spec := "fnExactTreeWord", apart := false, narrowed := true }
def FnExactTreeWordUptoSaid : Prop := fnExactTreeWordUptoRow.holds Try.pinned (OpenSpec.upto fnExactTreeWordSpec)

/-- 'laws.FnExactTreeBody', WHERE WHAT IT READS IS OF BULK AT MOST 1048576: true; the input reads as it did. -/
def fnExactTreeBodyUptoRow : OpenClaim := { program := "ytjenldenggaljaa", sum := "96388f83c696517441351417e8edf6643a0e22dab26c2b1be71b3690a0387748", func := "loop.example/shieling/laws.FnExactTreeBody", spec := "fnExactTreeBody", apart := false, narrowed := true }
def FnExactTreeBodyUptoSaid : Prop := fnExactTreeBodyUptoRow.holds Try.pinned (OpenSpec.upto fnExactTreeBodySpec)

/-- 'laws.FnExactTreeOk', WHERE WHAT IT READS IS OF BULK AT MOST 1048576: true; the input reads as it did. -/
def fnExactTreeOkUptoRow : OpenClaim := { program := "ytjenldenggaljaa", sum := "96388f83c696517441351417e8edf6643a0e22dab26c2b1be71b3690a0387748", func := "loop.example/shieling/laws.FnExactTreeOk", spec := "fnExactTreeOk", apart := false, narrowed := true }
def FnExactTreeOkUptoSaid : Prop := fnExactTreeOkUptoRow.holds Try.pinned (OpenSpec.upto fnExactTreeOkSpec)

/-- 'laws.FnExactTreeSame', WHERE WHAT IT READS IS OF BULK AT MOST 1048576: true; the input reads as it did. -/
def fnExactTreeSameUptoRow : OpenClaim := { program := "ytjenldenggaljaa", sum := "96388f83c696517441351417e8edf6643a0e22dab26c2b1be71b3690a0387748", func := "loop.example/shieling/laws.FnExactTreeSame", spec := "fnExactTreeSame", unfollowed := true, recurses := true, apart := false, narrowed := true }
def FnExactTreeSameUptoSaid : Prop := fnExactTreeSameUptoRow.holds Try.pinned (OpenSpec.upto fnExactTreeSameSpec)

/-- 'laws.FnExactTreeLike', WHERE WHAT IT READS IS OF BULK AT MOST 1048576: true; the input reads as it did. -/
def fnExactTreeLikeUptoRow : OpenClaim := { program := "ytjenldenggaljaa", sum := "96388f83c696517441351417e8edf6643a0e22dab26c2b1be71b3690a0387748", func := "loop.example/shieling/laws.FnExactTreeLike", spec := "fnExactTreeLike", unfollowed := true, recurses := true, apart := false, narrowed := true }
def FnExactTreeLikeUptoSaid : Prop := fnExactTreeLikeUptoRow.holds Try.pinned (OpenSpec.upto fnExactTreeLikeSpec)

/-- 'laws.FnExactTreeFind', WHERE WHAT IT READS IS OF BULK AT MOST 1048576: true; the input reads as it did. -/
def fnExactTreeFindUptoRow : OpenClaim := { program := "ytjenldenggaljaa", sum := "96388f83c696517441351417e8edf6643a0e22dab26c2b1be71b3690a0387748", func := "loop.example/shieling/laws.FnExactTreeFind", spec := "fnExactTreeFind", inPlace := ["internal/bytealg.abigen_runtime_cmpstring"], unfollowed := true, recurses := true, apart := false, narrowed := true }
def FnExactTreeFindUptoSaid : Prop := fnExactTreeFindUptoRow.holds Try.pinned (OpenSpec.upto fnExactTreeFindSpec)

/-- 'laws.FnExactTreeHome', WHERE WHAT IT READS IS OF BULK AT MOST 1048576: true; the input reads as it did. -/
def fnExactTreeHomeUptoRow : OpenClaim := { program := "ytjenldenggaljaa", sum := "96388f83c696517441351417e8edf6643a0e22dab26c2b1be71b3690a0387748", func := "loop.example/shieling/laws.FnExactTreeHome", spec := "fnExactTreeHome", apart := false, narrowed := true }
def FnExactTreeHomeUptoSaid : Prop := fnExactTreeHomeUptoRow.holds Try.pinned (OpenSpec.upto fnExactTreeHomeSpec)

/-- 'laws.FnExactTreeUnder', WHERE WHAT IT READS IS OF BULK AT MOST 1048576: true; the input reads as it did. -/
def fnExactTreeUnderUptoRow : OpenClaim := { program := "ytjenldenggaljaa", sum := "96388f83c696517441351417e8edf6643a0e22dab26c2b1be71b3690a0387748", func := "loop.example/shieling/laws.FnExactTreeUnder", spec := "fnExactTreeUnder", apart := false, narrowed := true }
def FnExactTreeUnderUptoSaid : Prop := fnExactTreeUnderUptoRow.holds Try.pinned (OpenSpec.upto fnExactTreeUnderSpec)

/-- 'laws.FnExactTreePath', WHERE WHAT IT READS IS OF BULK AT MOST 1048576: true; the input reads as it did. -/
def fnExactTreePathUptoRow : OpenClaim := { program := "ytjenldenggaljaa", sum := "96388f83c696517441351417e8edf6643a0e22dab26c2b1be71b3690a0387748", func := "loop.example/shieling/laws.FnExactTreePath", spec := "fnExactTreePath", apart := false, narrowed := true }
def FnExactTreePathUptoSaid : Prop := fnExactTreePathUptoRow.holds Try.pinned (OpenSpec.upto fnExactTreePathSpec)

/-- 'laws.FnExactOpOk', WHERE WHAT IT READS IS OF BULK AT MOST 1048576: true; the input reads as it did. -/
def fnExactOpOkUptoRow : OpenClaim := { program := "ytjenldenggaljaa", sum := "96388f83c696517441351417e8edf6643a0e22dab26c2b1be71b3690a0387748", func := "loop.example/shieling/laws.FnExactOpOk", spec := "fnExactOpOk", apart := false, narrowed := true }
def FnExactOpOkUptoSaid : Prop := fnExactOpOkUptoRow.holds Try.pinned (OpenSpec.upto fnExactOpOkSpec)

/-- 'laws.FnExactOpIds', WHERE WHAT IT READS IS OF BULK AT MOST 1048576: true; the input reads as it did. -/
def fnExactOpIdsUptoRow : OpenClaim := { program := "ytjenldenggaljaa", sum := "96388f83c696517441351417e8edf6643a0e22dab26c2b1be71b3690a0387748", func := "loop.example/shieling/laws.FnExactOpIds", spec := "fnExactOpIds", apart := false, narrowed := true }
def FnExactOpIdsUptoSaid : Prop := fnExactOpIdsUptoRow.holds Try.pinned (OpenSpec.upto fnExactOpIdsSpec)

/-- 'laws.FnExactOpSame', WHERE WHAT IT READS IS OF BULK AT MOST 1048576: true; the input reads as it did. -/
def fnExactOpSameUptoRow : OpenClaim := { program := "ytjenldenggaljaa", sum := "96388f83c696517441351417e8edf6643a0e22dab26c2b1be71b3690a0387748", func := "loop.example/shieling/laws.FnExactOpSame", spec := "fnExactOpSame", apart := false, narrowed := true }
def FnExactOpSameUptoSaid : Prop := fnExactOpSameUptoRow.holds Try.pinned (OpenSpec.upto fnExactOpSameSpec)

/-- 'laws.FnExactActFresh', WHERE WHAT IT READS IS OF BULK AT MOST 1048576: true; the input reads as it did. -/
def fnExactActFreshUptoRow : OpenClaim := { program := "ytjenldenggaljaa", sum := "96388f83c696517441351417e8edf6643a0e22dab26c2b1be71b3690a0387748", func := "loop.example/shieling/laws.FnExactActFresh", spec := "fnExactActFresh", apart := false, narrowed := true }
def FnExactActFreshUptoSaid : Prop := fnExactActFreshUptoRow.holds Try.pinned (OpenSpec.upto fnExactActFreshSpec)

end Rows
end Go.Proofs.Ytjenldenggaljaa
