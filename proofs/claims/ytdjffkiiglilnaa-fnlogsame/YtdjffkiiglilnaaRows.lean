/-
  No cell of these rows narrows 'for every input' (looked for: loops, veiled, ifaces, maps, wideKeys, modest, calm, conditions, laid).
  DERIVED. THE GIVEN ROWS OF THIS SEAT. 6 by the template 'for every input the law returns true; each argument reads behind the call as it read before'; 0 by the template 'total and deterministic' (their statements: YtdjffkiiglilnaaTotals.lean).
  GIVEN WITH THE SEED: the statements are not yours to turn. If you find one false, say at which input.
  Laid BY PROGRAM, IN A SANDBOX (cutbox-rows.mjs): the forced cells as the released guide's own fill.sh prints them over the translation dc5311291e2f988d… (all of the seat's roots in one cut). By AI agents, Wed Nov 11 2026. No macro, syntax, notation, axiom, sorry.
-/
import Derived.Test.YtdjffkiiglilnaaChecked
import GoSem.Claim
import GoSem.ClaimJoined
import GoSem.ClaimMapViews
import Derived.JoinedTies
import Derived.KernelRfl
namespace Go.Proofs.Ytdjffkiiglilnaa
/- THE CELL 'sum', in the pinned program and in every row, IS THE sha256 OF THE DUMP (.gsa) THAT YtdjffkiiglilnaaProg.lean LOADS. Nothing in Lean hashes anything: it is a label: what it is worth is what the hold of that sum in a sandbox is worth. -/
noncomputable def Try.pinned : Pinned := { name := "ytdjffkiiglilnaa", sum := "dc5311291e2f988d548050bc078af70c415deb541656d3d199a3533eeb7bc17c", checked := Try.checked }
namespace Rows
def none {H : Type} : Left H := { results := [], args := [] }

/-- 'laws.FnLogFits': WHATEVER THE INPUT: true; the input reads as it did. -/
def fnLogFitsSpec : ChangeSpec := { name := "fnLogFits", fn := fun _ => fun
  | [d] => { results := [.lit (.bool true)], args := [d] }
  | _ => none }
def fnLogFitsRow : OpenClaim := { program := "ytdjffkiiglilnaa", sum := "dc5311291e2f988d548050bc078af70c415deb541656d3d199a3533eeb7bc17c", func := "loop.example/shieling/laws.FnLogFits", spec := "fnLogFits", unfollowed := true, recurses := true, apart := false }
def FnLogFitsSaid : Prop := fnLogFitsRow.holds Try.pinned (OpenSpec.ofChange fnLogFitsSpec)

/-- ITS FALSE NEIGHBOUR: 'it returns false'. Refute it at one input. -/
def fnLogFitsWrong : ChangeSpec := { name := "fnLogFits", fn := fun _ => fun
  | [d] => { results := [.lit (.bool false)], args := [d] }
  | _ => none }
def FnLogFitsWrongFalsely : Prop := fnLogFitsRow.holds Try.pinned (OpenSpec.ofChange fnLogFitsWrong)

/-- 'laws.FnLogSame': WHATEVER THE INPUT: true; the input reads as it did. -/
def fnLogSameSpec : ChangeSpec := { name := "fnLogSame", fn := fun _ => fun
  | [d] => { results := [.lit (.bool true)], args := [d] }
  | _ => none }
def fnLogSameRow : OpenClaim := { program := "ytdjffkiiglilnaa", sum := "dc5311291e2f988d548050bc078af70c415deb541656d3d199a3533eeb7bc17c", func := "loop.example/shieling/laws.FnLogSame", spec := "fnLogSame", unfollowed := true, recurses := true, apart := false }
def FnLogSameSaid : Prop := fnLogSameRow.holds Try.pinned (OpenSpec.ofChange fnLogSameSpec)

/-- ITS FALSE NEIGHBOUR: 'it returns false'. Refute it at one input. -/
def fnLogSameWrong : ChangeSpec := { name := "fnLogSame", fn := fun _ => fun
  | [d] => { results := [.lit (.bool false)], args := [d] }
  | _ => none }
def FnLogSameWrongFalsely : Prop := fnLogSameRow.holds Try.pinned (OpenSpec.ofChange fnLogSameWrong)

/-- 'laws.FnExactLogMake': WHATEVER THE INPUT: true; the input reads as it did. -/
def fnExactLogMakeSpec : ChangeSpec := { name := "fnExactLogMake", fn := fun _ => fun
  | [d1, d2, d3, d4] => { results := [.lit (.bool true)], args := [d1, d2, d3, d4] }
  | _ => none }
def fnExactLogMakeRow : OpenClaim := { program := "ytdjffkiiglilnaa", sum := "dc5311291e2f988d548050bc078af70c415deb541656d3d199a3533eeb7bc17c", func := "loop.example/shieling/laws.FnExactLogMake", spec := "fnExactLogMake", apart := false }
def FnExactLogMakeSaid : Prop := fnExactLogMakeRow.holds Try.pinned (OpenSpec.ofChange fnExactLogMakeSpec)

/-- ITS FALSE NEIGHBOUR: 'it returns false'. Refute it at one input. -/
def fnExactLogMakeWrong : ChangeSpec := { name := "fnExactLogMake", fn := fun _ => fun
  | [d1, d2, d3, d4] => { results := [.lit (.bool false)], args := [d1, d2, d3, d4] }
  | _ => none }
def FnExactLogMakeWrongFalsely : Prop := fnExactLogMakeRow.holds Try.pinned (OpenSpec.ofChange fnExactLogMakeWrong)

/-- 'laws.FnExactShopOpen': WHATEVER THE INPUT: true; the input reads as it did. -/
def fnExactShopOpenSpec : ChangeSpec := { name := "fnExactShopOpen", fn := fun _ => fun
  | [] => { results := [.lit (.bool true)], args := [] }
  | _ => none }
def fnExactShopOpenRow : OpenClaim := { program := "ytdjffkiiglilnaa", sum := "dc5311291e2f988d548050bc078af70c415deb541656d3d199a3533eeb7bc17c", func := "loop.example/shieling/laws.FnExactShopOpen", spec := "fnExactShopOpen", apart := false }
def FnExactShopOpenSaid : Prop := fnExactShopOpenRow.holds Try.pinned (OpenSpec.ofChange fnExactShopOpenSpec)

/-- ITS FALSE NEIGHBOUR: 'it returns false'. Refute it at one input. -/
def fnExactShopOpenWrong : ChangeSpec := { name := "fnExactShopOpen", fn := fun _ => fun
  | [] => { results := [.lit (.bool false)], args := [] }
  | _ => none }
def FnExactShopOpenWrongFalsely : Prop := fnExactShopOpenRow.holds Try.pinned (OpenSpec.ofChange fnExactShopOpenWrong)

/-- 'laws.FnExactShopOk': WHATEVER THE INPUT: true; the input reads as it did. -/
def fnExactShopOkSpec : ChangeSpec := { name := "fnExactShopOk", fn := fun _ => fun
  | [d] => { results := [.lit (.bool true)], args := [d] }
  | _ => none }
def fnExactShopOkRow : OpenClaim := { program := "ytdjffkiiglilnaa", sum := "dc5311291e2f988d548050bc078af70c415deb541656d3d199a3533eeb7bc17c", func := "loop.example/shieling/laws.FnExactShopOk", spec := "fnExactShopOk", apart := false }
def FnExactShopOkSaid : Prop := fnExactShopOkRow.holds Try.pinned (OpenSpec.ofChange fnExactShopOkSpec)

/-- ITS FALSE NEIGHBOUR: 'it returns false'. Refute it at one input. -/
def fnExactShopOkWrong : ChangeSpec := { name := "fnExactShopOk", fn := fun _ => fun
  | [d] => { results := [.lit (.bool false)], args := [d] }
  | _ => none }
def FnExactShopOkWrongFalsely : Prop := fnExactShopOkRow.holds Try.pinned (OpenSpec.ofChange fnExactShopOkWrong)

/-- 'laws.FnExactShopSame': WHATEVER THE INPUT: true; the input reads as it did. -/
def fnExactShopSameSpec : ChangeSpec := { name := "fnExactShopSame", fn := fun _ => fun
  | [d1, d2] => { results := [.lit (.bool true)], args := [d1, d2] }
  | _ => none }
def fnExactShopSameRow : OpenClaim := { program := "ytdjffkiiglilnaa", sum := "dc5311291e2f988d548050bc078af70c415deb541656d3d199a3533eeb7bc17c", func := "loop.example/shieling/laws.FnExactShopSame", spec := "fnExactShopSame", unfollowed := true, recurses := true, apart := false }
def FnExactShopSameSaid : Prop := fnExactShopSameRow.holds Try.pinned (OpenSpec.ofChange fnExactShopSameSpec)

/-- ITS FALSE NEIGHBOUR: 'it returns false'. Refute it at one input. -/
def fnExactShopSameWrong : ChangeSpec := { name := "fnExactShopSame", fn := fun _ => fun
  | [d1, d2] => { results := [.lit (.bool false)], args := [d1, d2] }
  | _ => none }
def FnExactShopSameWrongFalsely : Prop := fnExactShopSameRow.holds Try.pinned (OpenSpec.ofChange fnExactShopSameWrong)

/- THE SECOND FORM. 'bulk': how many values and letters a reading holds, each counted each time it is reached (what is shared counts as often as it is met; a slice's spare places count too). A statement '..UptoSaid' is the law's where the arguments, and the package variables that the reading takes, are together of bulk at most 1048576: NARROWER than '..Said'. Prove '..Said' where nothing that the law and all that it calls make is longer than what came in: it says more and counts as full. Else prove '..UptoSaid'. A law counts once. -/
mutual
def uptoBulk {H : Type} : DataW H → Nat
  | .lit (.string bytes) => bytes.length + 1
  | .lit _ => 1
  | .nil => 1
  | .ptr d => uptoBulk d + 1
  | .slice elems spare => uptoBulkAll elems + uptoBulkAll spare + 1
  | .agg parts => uptoBulkAll parts + 1
  | .iface _ d => uptoBulk d + 1
  | .map entries => uptoBulkEntries entries + 1
  | .held _ => 1
def uptoBulkAll {H : Type} : List (DataW H) → Nat
  | [] => 0
  | d :: r => uptoBulk d + uptoBulkAll r
def uptoBulkEntries {H : Type} : List (Lit × DataW H) → Nat
  | [] => 0
  | x :: r => uptoBulkEntry x + uptoBulkEntries r
def uptoBulkEntry {H : Type} : Lit × DataW H → Nat
  | (.string bytes, d) => bytes.length + uptoBulk d + 1
  | (_, d) => uptoBulk d + 1
 end
def uptoSmall : (H : Type) → List (DataW H) → Bool := fun _ ds => decide (uptoBulkAll ds ≤ 1048576)
def OpenSpec.upto (s : _root_.Go.ChangeSpec) : _root_.Go.OpenSpec := { _root_.Go.OpenSpec.ofChange s with cond := some uptoSmall }

/-- 'laws.FnLogFits', WHERE WHAT IT READS IS OF BULK AT MOST 1048576: true; the input reads as it did. -/
def fnLogFitsUptoRow : OpenClaim := { program := "ytdjffkiiglilnaa", sum := "dc5311291e2f988d548050bc078af70c415deb541656d3d199a3533eeb7bc17c", func := "loop.example/shieling/laws.FnLogFits", spec := "fnLogFits", unfollowed := true, recurses := true, apart := false, narrowed := true }
def FnLogFitsUptoSaid : Prop := fnLogFitsUptoRow.holds Try.pinned (OpenSpec.upto fnLogFitsSpec)

/-- 'laws.FnLogSame', WHERE WHAT IT READS IS OF BULK AT MOST 1048576: true; the input reads as it did. -/
def fnLogSameUptoRow : OpenClaim := { program := "ytdjffkiiglilnaa", sum := "dc5311291e2f988d548050bc078af70c415deb541656d3d199a3533eeb7bc17c", func := "loop.example/shieling/laws.FnLogSame", spec := "fnLogSame", unfollowed := true, recurses := true, apart := false, narrowed := true }
def FnLogSameUptoSaid : Prop := fnLogSameUptoRow.holds Try.pinned (OpenSpec.upto fnLogSameSpec)

/-- 'laws.FnExactLogMake', WHERE WHAT IT READS IS OF BULK AT MOST 1048576: true; the input reads as it did. -/
def fnExactLogMakeUptoRow : OpenClaim := { program := "ytdjffkiiglilnaa", sum := "dc5311291e2f988d548050bc078af70c415deb541656d3d199a3533eeb7bc17c", func := "loop.example/shieling/laws.FnExactLogMake", spec := "fnExactLogMake", apart := false, narrowed := true }
def FnExactLogMakeUptoSaid : Prop := fnExactLogMakeUptoRow.holds Try.pinned (OpenSpec.upto fnExactLogMakeSpec)

/-- 'laws.FnExactShopOpen', WHERE WHAT IT READS IS OF BULK AT MOST 1048576: true; the input reads as it did. -/
def fnExactShopOpenUptoRow : OpenClaim := { program := "ytdjffkiiglilnaa", sum := "dc5311291e2f988d548050bc078af70c415deb541656d3d199a3533eeb7bc17c", func := "loop.example/shieling/laws.FnExactShopOpen", spec := "fnExactShopOpen", apart := false, narrowed := true }
def FnExactShopOpenUptoSaid : Prop := fnExactShopOpenUptoRow.holds Try.pinned (OpenSpec.upto fnExactShopOpenSpec)

/-- 'laws.FnExactShopOk', WHERE WHAT IT READS IS OF BULK AT MOST 1048576: true; the input reads as it did. -/
def fnExactShopOkUptoRow : OpenClaim := { program := "ytdjffkiiglilnaa", sum := "dc5311291e2f988d548050bc078af70c415deb541656d3d199a3533eeb7bc17c", func := "loop.example/shieling/laws.FnExactShopOk", spec := "fnExactShopOk", apart := false, narrowed := true }
def FnExactShopOkUptoSaid : Prop := fnExactShopOkUptoRow.holds Try.pinned (OpenSpec.upto fnExactShopOkSpec)

/-- 'laws.FnExactShopSame', WHERE WHAT IT READS IS OF BULK AT MOST 1048576: true; the input reads as it did. -/
def fnExactShopSameUptoRow : OpenClaim := { program := "ytdjffkiiglilnaa", sum := "dc5311291e2f988d548050bc078af70c415deb541656d3d199a3533eeb7bc17c", func := "loop.example/shieling/laws.FnExactShopSame", spec := "fnExactShopSame", unfollowed := true, recurses := true, apart := false, narrowed := true }
def FnExactShopSameUptoSaid : Prop := fnExactShopSameUptoRow.holds Try.pinned (OpenSpec.upto fnExactShopSameSpec)

end Rows
end Go.Proofs.Ytdjffkiiglilnaa
