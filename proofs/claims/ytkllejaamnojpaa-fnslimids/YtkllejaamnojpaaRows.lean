/-
  No cell of these rows narrows 'for every input' (looked for: loops, veiled, ifaces, maps, wideKeys, modest, calm, conditions, laid).
  DERIVED. THE GIVEN ROWS OF THIS SEAT. 12 by the template 'for every input the law returns true; each argument reads behind the call as it read before'; 0 by the template 'total and deterministic' (their statements: YtkllejaamnojpaaTotals.lean).
  GIVEN WITH THE SEED: the statements are not yours to turn. If you find one false, say at which input.
  Laid BY PROGRAM, IN A SANDBOX (cutbox-rows.mjs): the forced cells as the released guide's own fill.sh prints them over the translation 7d083e8a0f74a141… (all of the seat's roots in one cut). By AI agents, Wed Nov 11 2026. No macro, syntax, notation, axiom, sorry.
-/
import Derived.Test.YtkllejaamnojpaaChecked
import GoSem.Claim
import GoSem.ClaimJoined
import GoSem.ClaimMapViews
import Derived.JoinedTies
import Derived.KernelRfl
namespace Go.Proofs.Ytkllejaamnojpaa
/- THE CELL 'sum', in the pinned program and in every row, IS THE sha256 OF THE DUMP (.gsa) THAT YtkllejaamnojpaaProg.lean LOADS. Nothing in Lean hashes anything: it is a label: what it is worth is what the hold of that sum in a sandbox is worth. -/
noncomputable def Try.pinned : Pinned := { name := "ytkllejaamnojpaa", sum := "7d083e8a0f74a14130488115842d32419cf5c9214879ed1d200b5591398af8b3", checked := Try.checked }
namespace Rows
def none {H : Type} : Left H := { results := [], args := [] }

/-- 'laws.FnSlimIds': WHATEVER THE INPUT: true; the input reads as it did. -/
def fnSlimIdsSpec : ChangeSpec := { name := "fnSlimIds", fn := fun _ => fun
  | [d] => { results := [.lit (.bool true)], args := [d] }
  | _ => none }
def fnSlimIdsRow : OpenClaim := { program := "ytkllejaamnojpaa", sum := "7d083e8a0f74a14130488115842d32419cf5c9214879ed1d200b5591398af8b3", func := "loop.example/shieling/laws.FnSlimIds", spec := "fnSlimIds", unfollowed := true, recurses := true, apart := false }
def FnSlimIdsSaid : Prop := fnSlimIdsRow.holds Try.pinned (OpenSpec.ofChange fnSlimIdsSpec)

/-- ITS FALSE NEIGHBOUR: 'it returns false'. Refute it at one input. -/
def fnSlimIdsWrong : ChangeSpec := { name := "fnSlimIds", fn := fun _ => fun
  | [d] => { results := [.lit (.bool false)], args := [d] }
  | _ => none }
def FnSlimIdsWrongFalsely : Prop := fnSlimIdsRow.holds Try.pinned (OpenSpec.ofChange fnSlimIdsWrong)

/-- 'laws.FnSlimTexts': WHATEVER THE INPUT: true; the input reads as it did. -/
def fnSlimTextsSpec : ChangeSpec := { name := "fnSlimTexts", fn := fun _ => fun
  | [d] => { results := [.lit (.bool true)], args := [d] }
  | _ => none }
def fnSlimTextsRow : OpenClaim := { program := "ytkllejaamnojpaa", sum := "7d083e8a0f74a14130488115842d32419cf5c9214879ed1d200b5591398af8b3", func := "loop.example/shieling/laws.FnSlimTexts", spec := "fnSlimTexts", unfollowed := true, recurses := true, apart := false }
def FnSlimTextsSaid : Prop := fnSlimTextsRow.holds Try.pinned (OpenSpec.ofChange fnSlimTextsSpec)

/-- ITS FALSE NEIGHBOUR: 'it returns false'. Refute it at one input. -/
def fnSlimTextsWrong : ChangeSpec := { name := "fnSlimTexts", fn := fun _ => fun
  | [d] => { results := [.lit (.bool false)], args := [d] }
  | _ => none }
def FnSlimTextsWrongFalsely : Prop := fnSlimTextsRow.holds Try.pinned (OpenSpec.ofChange fnSlimTextsWrong)

/-- 'laws.FnSlimPairs': WHATEVER THE INPUT: true; the input reads as it did. -/
def fnSlimPairsSpec : ChangeSpec := { name := "fnSlimPairs", fn := fun _ => fun
  | [d] => { results := [.lit (.bool true)], args := [d] }
  | _ => none }
def fnSlimPairsRow : OpenClaim := { program := "ytkllejaamnojpaa", sum := "7d083e8a0f74a14130488115842d32419cf5c9214879ed1d200b5591398af8b3", func := "loop.example/shieling/laws.FnSlimPairs", spec := "fnSlimPairs", unfollowed := true, recurses := true, apart := false }
def FnSlimPairsSaid : Prop := fnSlimPairsRow.holds Try.pinned (OpenSpec.ofChange fnSlimPairsSpec)

/-- ITS FALSE NEIGHBOUR: 'it returns false'. Refute it at one input. -/
def fnSlimPairsWrong : ChangeSpec := { name := "fnSlimPairs", fn := fun _ => fun
  | [d] => { results := [.lit (.bool false)], args := [d] }
  | _ => none }
def FnSlimPairsWrongFalsely : Prop := fnSlimPairsRow.holds Try.pinned (OpenSpec.ofChange fnSlimPairsWrong)

/-- 'laws.FnSlimMoves': WHATEVER THE INPUT: true; the input reads as it did. -/
def fnSlimMovesSpec : ChangeSpec := { name := "fnSlimMoves", fn := fun _ => fun
  | [d] => { results := [.lit (.bool true)], args := [d] }
  | _ => none }
def fnSlimMovesRow : OpenClaim := { program := "ytkllejaamnojpaa", sum := "7d083e8a0f74a14130488115842d32419cf5c9214879ed1d200b5591398af8b3", func := "loop.example/shieling/laws.FnSlimMoves", spec := "fnSlimMoves", unfollowed := true, recurses := true, apart := false }
def FnSlimMovesSaid : Prop := fnSlimMovesRow.holds Try.pinned (OpenSpec.ofChange fnSlimMovesSpec)

/-- ITS FALSE NEIGHBOUR: 'it returns false'. Refute it at one input. -/
def fnSlimMovesWrong : ChangeSpec := { name := "fnSlimMoves", fn := fun _ => fun
  | [d] => { results := [.lit (.bool false)], args := [d] }
  | _ => none }
def FnSlimMovesWrongFalsely : Prop := fnSlimMovesRow.holds Try.pinned (OpenSpec.ofChange fnSlimMovesWrong)

/-- 'laws.FnLogFits': WHATEVER THE INPUT: true; the input reads as it did. -/
def fnLogFitsSpec : ChangeSpec := { name := "fnLogFits", fn := fun _ => fun
  | [d] => { results := [.lit (.bool true)], args := [d] }
  | _ => none }
def fnLogFitsRow : OpenClaim := { program := "ytkllejaamnojpaa", sum := "7d083e8a0f74a14130488115842d32419cf5c9214879ed1d200b5591398af8b3", func := "loop.example/shieling/laws.FnLogFits", spec := "fnLogFits", unfollowed := true, recurses := true, apart := false }
def FnLogFitsSaid : Prop := fnLogFitsRow.holds Try.pinned (OpenSpec.ofChange fnLogFitsSpec)

/-- ITS FALSE NEIGHBOUR: 'it returns false'. Refute it at one input. -/
def fnLogFitsWrong : ChangeSpec := { name := "fnLogFits", fn := fun _ => fun
  | [d] => { results := [.lit (.bool false)], args := [d] }
  | _ => none }
def FnLogFitsWrongFalsely : Prop := fnLogFitsRow.holds Try.pinned (OpenSpec.ofChange fnLogFitsWrong)

/-- 'laws.FnLogIds': WHATEVER THE INPUT: true; the input reads as it did. -/
def fnLogIdsSpec : ChangeSpec := { name := "fnLogIds", fn := fun _ => fun
  | [d1, d2] => { results := [.lit (.bool true)], args := [d1, d2] }
  | _ => none }
def fnLogIdsRow : OpenClaim := { program := "ytkllejaamnojpaa", sum := "7d083e8a0f74a14130488115842d32419cf5c9214879ed1d200b5591398af8b3", func := "loop.example/shieling/laws.FnLogIds", spec := "fnLogIds", apart := false }
def FnLogIdsSaid : Prop := fnLogIdsRow.holds Try.pinned (OpenSpec.ofChange fnLogIdsSpec)

/-- ITS FALSE NEIGHBOUR: 'it returns false'. Refute it at one input. -/
def fnLogIdsWrong : ChangeSpec := { name := "fnLogIds", fn := fun _ => fun
  | [d1, d2] => { results := [.lit (.bool false)], args := [d1, d2] }
  | _ => none }
def FnLogIdsWrongFalsely : Prop := fnLogIdsRow.holds Try.pinned (OpenSpec.ofChange fnLogIdsWrong)

/-- 'laws.FnLogSame': WHATEVER THE INPUT: true; the input reads as it did. -/
def fnLogSameSpec : ChangeSpec := { name := "fnLogSame", fn := fun _ => fun
  | [d] => { results := [.lit (.bool true)], args := [d] }
  | _ => none }
def fnLogSameRow : OpenClaim := { program := "ytkllejaamnojpaa", sum := "7d083e8a0f74a14130488115842d32419cf5c9214879ed1d200b5591398af8b3", func := "loop.example/shieling/laws.FnLogSame", spec := "fnLogSame", unfollowed := true, recurses := true, apart := false }
def FnLogSameSaid : Prop := fnLogSameRow.holds Try.pinned (OpenSpec.ofChange fnLogSameSpec)

/-- ITS FALSE NEIGHBOUR: 'it returns false'. Refute it at one input. -/
def fnLogSameWrong : ChangeSpec := { name := "fnLogSame", fn := fun _ => fun
  | [d] => { results := [.lit (.bool false)], args := [d] }
  | _ => none }
def FnLogSameWrongFalsely : Prop := fnLogSameRow.holds Try.pinned (OpenSpec.ofChange fnLogSameWrong)

/-- 'laws.FnExactLogMake': WHATEVER THE INPUT: true; the input reads as it did. -/
def fnExactLogMakeSpec : ChangeSpec := { name := "fnExactLogMake", fn := fun _ => fun
  | [d1, d2, d3, d4] => { results := [.lit (.bool true)], args := [d1, d2, d3, d4] }
  | _ => none }
def fnExactLogMakeRow : OpenClaim := { program := "ytkllejaamnojpaa", sum := "7d083e8a0f74a14130488115842d32419cf5c9214879ed1d200b5591398af8b3", func := "loop.example/shieling/laws.FnExactLogMake", spec := "fnExactLogMake", apart := false }
def FnExactLogMakeSaid : Prop := fnExactLogMakeRow.holds Try.pinned (OpenSpec.ofChange fnExactLogMakeSpec)

/-- ITS FALSE NEIGHBOUR: 'it returns false'. Refute it at one input. -/
def fnExactLogMakeWrong : ChangeSpec := { name := "fnExactLogMake", fn := fun _ => fun
  | [d1, d2, d3, d4] => { results := [.lit (.bool false)], args := [d1, d2, d3, d4] }
  | _ => none }
def FnExactLogMakeWrongFalsely : Prop := fnExactLogMakeRow.holds Try.pinned (OpenSpec.ofChange fnExactLogMakeWrong)

/-- 'laws.FnExactLogOk': WHATEVER THE INPUT: true; the input reads as it did. -/
def fnExactLogOkSpec : ChangeSpec := { name := "fnExactLogOk", fn := fun _ => fun
  | [d] => { results := [.lit (.bool true)], args := [d] }
  | _ => none }
def fnExactLogOkRow : OpenClaim := { program := "ytkllejaamnojpaa", sum := "7d083e8a0f74a14130488115842d32419cf5c9214879ed1d200b5591398af8b3", func := "loop.example/shieling/laws.FnExactLogOk", spec := "fnExactLogOk", unfollowed := true, recurses := true, apart := false }
def FnExactLogOkSaid : Prop := fnExactLogOkRow.holds Try.pinned (OpenSpec.ofChange fnExactLogOkSpec)

/-- ITS FALSE NEIGHBOUR: 'it returns false'. Refute it at one input. -/
def fnExactLogOkWrong : ChangeSpec := { name := "fnExactLogOk", fn := fun _ => fun
  | [d] => { results := [.lit (.bool false)], args := [d] }
  | _ => none }
def FnExactLogOkWrongFalsely : Prop := fnExactLogOkRow.holds Try.pinned (OpenSpec.ofChange fnExactLogOkWrong)

/-- 'laws.FnExactLogSame': WHATEVER THE INPUT: true; the input reads as it did. -/
def fnExactLogSameSpec : ChangeSpec := { name := "fnExactLogSame", fn := fun _ => fun
  | [d1, d2] => { results := [.lit (.bool true)], args := [d1, d2] }
  | _ => none }
def fnExactLogSameRow : OpenClaim := { program := "ytkllejaamnojpaa", sum := "7d083e8a0f74a14130488115842d32419cf5c9214879ed1d200b5591398af8b3", func := "loop.example/shieling/laws.FnExactLogSame", spec := "fnExactLogSame", apart := false }
def FnExactLogSameSaid : Prop := fnExactLogSameRow.holds Try.pinned (OpenSpec.ofChange fnExactLogSameSpec)

/-- ITS FALSE NEIGHBOUR: 'it returns false'. Refute it at one input. -/
def fnExactLogSameWrong : ChangeSpec := { name := "fnExactLogSame", fn := fun _ => fun
  | [d1, d2] => { results := [.lit (.bool false)], args := [d1, d2] }
  | _ => none }
def FnExactLogSameWrongFalsely : Prop := fnExactLogSameRow.holds Try.pinned (OpenSpec.ofChange fnExactLogSameWrong)

/-- 'laws.FnExactLogFits': WHATEVER THE INPUT: true; the input reads as it did. -/
def fnExactLogFitsSpec : ChangeSpec := { name := "fnExactLogFits", fn := fun _ => fun
  | [d1, d2] => { results := [.lit (.bool true)], args := [d1, d2] }
  | _ => none }
def fnExactLogFitsRow : OpenClaim := { program := "ytkllejaamnojpaa", sum := "7d083e8a0f74a14130488115842d32419cf5c9214879ed1d200b5591398af8b3", func := "loop.example/shieling/laws.FnExactLogFits", spec := "fnExactLogFits", unfollowed := true, recurses := true, apart := false }
def FnExactLogFitsSaid : Prop := fnExactLogFitsRow.holds Try.pinned (OpenSpec.ofChange fnExactLogFitsSpec)

/-- ITS FALSE NEIGHBOUR: 'it returns false'. Refute it at one input. -/
def fnExactLogFitsWrong : ChangeSpec := { name := "fnExactLogFits", fn := fun _ => fun
  | [d1, d2] => { results := [.lit (.bool false)], args := [d1, d2] }
  | _ => none }
def FnExactLogFitsWrongFalsely : Prop := fnExactLogFitsRow.holds Try.pinned (OpenSpec.ofChange fnExactLogFitsWrong)

/-- 'laws.FnExactLogIds': WHATEVER THE INPUT: true; the input reads as it did. -/
def fnExactLogIdsSpec : ChangeSpec := { name := "fnExactLogIds", fn := fun _ => fun
  | [d] => { results := [.lit (.bool true)], args := [d] }
  | _ => none }
def fnExactLogIdsRow : OpenClaim := { program := "ytkllejaamnojpaa", sum := "7d083e8a0f74a14130488115842d32419cf5c9214879ed1d200b5591398af8b3", func := "loop.example/shieling/laws.FnExactLogIds", spec := "fnExactLogIds", apart := false }
def FnExactLogIdsSaid : Prop := fnExactLogIdsRow.holds Try.pinned (OpenSpec.ofChange fnExactLogIdsSpec)

/-- ITS FALSE NEIGHBOUR: 'it returns false'. Refute it at one input. -/
def fnExactLogIdsWrong : ChangeSpec := { name := "fnExactLogIds", fn := fun _ => fun
  | [d] => { results := [.lit (.bool false)], args := [d] }
  | _ => none }
def FnExactLogIdsWrongFalsely : Prop := fnExactLogIdsRow.holds Try.pinned (OpenSpec.ofChange fnExactLogIdsWrong)

/- THE SECOND FORM. 'bulk': how many values and letters a reading holds, each counted each time it is reached (what is shared counts as often as it is met; a slice's spare places count too). A statement '..UptoSaid' is the law's where the arguments, and the package variables that the reading takes, are together of bulk at most 1048576: NARROWER than '..Said'. Prove '..Said' where nothing that the law and all that it calls make is longer than what came in: it says more and counts as full. Else prove '..UptoSaid'. A law counts once. -/
mutual
def uptoBulk {H : Type} : DataW H → Nat
  | .lit (.string bytes) => bytes.length + 1
  | .lit _ => 1
  | .nil => 1
  | .ptr d => uptoBulk d + 1
  | .slice elems spare => uptoBulkAll elems + uptoBulkAll spare + 1
  | .agg parts => uptoBulkAll parts + 1
  | .iface _ d => uptoBulk d + 1
  | .map entries => uptoBulkEntries entries + 1
  | .held _ => 1
def uptoBulkAll {H : Type} : List (DataW H) → Nat
  | [] => 0
  | d :: r => uptoBulk d + uptoBulkAll r
def uptoBulkEntries {H : Type} : List (Lit × DataW H) → Nat
  | [] => 0
  | x :: r => uptoBulkEntry x + uptoBulkEntries r
def uptoBulkEntry {H : Type} : Lit × DataW H → Nat
  | (.string bytes, d) => bytes.length + uptoBulk d + 1
  | (_, d) => uptoBulk d + 1
 end
def uptoSmall : (H : Type) → List (DataW H) → Bool := fun _ ds => decide (uptoBulkAll ds ≤ 1048576)
def OpenSpec.upto (s : _root_.Go.ChangeSpec) : _root_.Go.OpenSpec := { _root_.Go.OpenSpec.ofChange s with cond := some uptoSmall }

/-- 'laws.FnSlimIds', WHERE WHAT IT READS IS OF BULK AT MOST 1048576: true; the input reads as it did. -/
def fnSlimIdsUptoRow : OpenClaim := { program := "ytkllejaamnojpaa", sum := "7d083e8a0f74a14130488115842d32419cf5c9214879ed1d200b5591398af8b3", func := "loop.example/shieling/laws.FnSlimIds", spec := "fnSlimIds", unfollowed := true, recurses := true, apart := false, narrowed := true }
def FnSlimIdsUptoSaid : Prop := fnSlimIdsUptoRow.holds Try.pinned (OpenSpec.upto fnSlimIdsSpec)

/-- 'laws.FnSlimTexts', WHERE WHAT IT READS IS OF BULK AT MOST 1048576: true; the input reads as it did. -/
def fnSlimTextsUptoRow : OpenClaim := { program := "ytkllejaamnojpaa", sum := "7d083e8a0f74a14130488115842d32419cf5c9214879ed1d200b5591398af8b3", func := "loop.example/shieling/laws.FnSlimTexts", spec := "fnSlimTexts", unfollowed := true, recurses := true, apart := false, narrowed := true }
def FnSlimTextsUptoSaid : Prop := fnSlimTextsUptoRow.holds Try.pinned (OpenSpec.upto fnSlimTextsSpec)

/-- 'laws.FnSlimPairs', WHERE WHAT IT READS IS OF BULK AT MOST 1048576: true; the input reads as it did. -/
def fnSlimPairsUptoRow : OpenClaim := { program := "ytkllejaamnojpaa", sum := "7d083e8a0f74a14130488115842d32419cf5c9214879ed1d200b5591398af8b3", func := "loop.example/shieling/laws.FnSlimPairs", spec := "fnSlimPairs", unfollowed := true, recurses := true, apart := false, narrowed := true }
def FnSlimPairsUptoSaid : Prop := fnSlimPairsUptoRow.holds Try.pinned (OpenSpec.upto fnSlimPairsSpec)

/-- 'laws.FnSlimMoves', WHERE WHAT IT READS IS OF BULK AT MOST 1048576: true; the input reads as it did. -/
def fnSlimMovesUptoRow : OpenClaim := { program := "ytkllejaamnojpaa", sum := "7d083e8a0f74a14130488115842d32419cf5c9214879ed1d200b5591398af8b3", func := "loop.example/shieling/laws.FnSlimMoves", spec := "fnSlimMoves", unfollowed := true, recurses := true, apart := false, narrowed := true }
def FnSlimMovesUptoSaid : Prop := fnSlimMovesUptoRow.holds Try.pinned (OpenSpec.upto fnSlimMovesSpec)

/-- 'laws.FnLogFits', WHERE WHAT IT READS IS OF BULK AT MOST 1048576: true; the input reads as it did. -/
def fnLogFitsUptoRow : OpenClaim := { program := "ytkllejaamnojpaa", sum := "7d083e8a0f74a14130488115842d32419cf5c9214879ed1d200b5591398af8b3", func := "loop.example/shieling/laws.FnLogFits", spec := "fnLogFits", unfollowed := true, recurses := true, apart := false, narrowed := true }
def FnLogFitsUptoSaid : Prop := fnLogFitsUptoRow.holds Try.pinned (OpenSpec.upto fnLogFitsSpec)

/-- 'laws.FnLogIds', WHERE WHAT IT READS IS OF BULK AT MOST 1048576: true; the input reads as it did. -/
def fnLogIdsUptoRow : OpenClaim := { program := "ytkllejaamnojpaa", sum := "7d083e8a0f74a14130488115842d32419cf5c9214879ed1d200b5591398af8b3", func := "loop.example/shieling/laws.FnLogIds", spec := "fnLogIds", apart := false, narrowed := true }
def FnLogIdsUptoSaid : Prop := fnLogIdsUptoRow.holds Try.pinned (OpenSpec.upto fnLogIdsSpec)

/-- 'laws.FnLogSame', WHERE WHAT IT READS IS OF BULK AT MOST 1048576: true; the input reads as it did. -/
def fnLogSameUptoRow : OpenClaim := { program := "ytkllejaamnojpaa", sum := "7d083e8a0f74a14130488115842d32419cf5c9214879ed1d200b5591398af8b3", func := "loop.example/shieling/laws.FnLogSame", spec := "fnLogSame", unfollowed := true, recurses := true, apart := false, narrowed := true }
def FnLogSameUptoSaid : Prop := fnLogSameUptoRow.holds Try.pinned (OpenSpec.upto fnLogSameSpec)

/-- 'laws.FnExactLogMake', WHERE WHAT IT READS IS OF BULK AT MOST 1048576: true; the input reads as it did. -/
def fnExactLogMakeUptoRow : OpenClaim := { program := "ytkllejaamnojpaa", sum := "7d083e8a0f74a14130488115842d32419cf5c9214879ed1d200b5591398af8b3", func := "loop.example/shieling/laws.FnExactLogMake", spec := "fnExactLogMake", apart := false, narrowed := true }
def FnExactLogMakeUptoSaid : Prop := fnExactLogMakeUptoRow.holds Try.pinned (OpenSpec.upto fnExactLogMakeSpec)

/-- 'laws.FnExactLogOk', WHERE WHAT IT READS IS OF BULK AT MOST 1048576: true; the input reads as it did. -/
def fnExactLogOkUptoRow : OpenClaim := { program := "ytkllejaamnojpaa", sum := "7d083e8a0f74a14130488115842d32419cf5c9214879ed1d200b5591398af8b3", func := "loop.example/shieling/laws.FnExactLogOk", spec := "fnExactLogOk", unfollowed := true, recurses := true, apart := false, narrowed := true }
def FnExactLogOkUptoSaid : Prop := fnExactLogOkUptoRow.holds Try.pinned (OpenSpec.upto fnExactLogOkSpec)

/-- 'laws.FnExactLogSame', WHERE WHAT IT READS IS OF BULK AT MOST 1048576: true; the input reads as it did. -/
def fnExactLogSameUptoRow : OpenClaim := { program := "ytkllejaamnojpaa", sum := "7d083e8a0f74a14130488115842d32419cf5c9214879ed1d200b5591398af8b3", func := "loop.example/shieling/laws.FnExactLogSame", spec := "fnExactLogSame", apart := false, narrowed := true }
def FnExactLogSameUptoSaid : Prop := fnExactLogSameUptoRow.holds Try.pinned (OpenSpec.upto fnExactLogSameSpec)

/-- 'laws.FnExactLogFits', WHERE WHAT IT READS IS OF BULK AT MOST 1048576: true; the input reads as it did. -/
def fnExactLogFitsUptoRow : OpenClaim := { program := "ytkllejaamnojpaa", sum := "7d083e8a0f74a14130488115842d32419cf5c9214879ed1d200b5591398af8b3", func := "loop.example/shieling/laws.FnExactLogFits", spec := "fnExactLogFits", unfollowed := true, recurses := true, apart := false, narrowed := true }
def FnExactLogFitsUptoSaid : Prop := fnExactLogFitsUptoRow.holds Try.pinned (OpenSpec.upto fnExactLogFitsSpec)

/-- 'laws.FnExactLogIds', WHERE WHAT IT READS IS OF BULK AT MOST 1048576: true; the input reads as it did. -/
def fnExactLogIdsUptoRow : OpenClaim := { program := "ytkllejaamnojpaa", sum := "7d083e8a0f74a14130488115842d32419cf5c9214879ed1d200b5591398af8b3", func := "loop.example/shieling/laws.FnExactLogIds", spec := "fnExactLogIds", apart := false, narrowed := true }
def FnExactLogIdsUptoSaid : Prop := fnExactLogIdsUptoRow.holds Try.pinned (OpenSpec.upto fnExactLogIdsSpec)

end Rows
end Go.Proofs.Ytkllejaamnojpaa
