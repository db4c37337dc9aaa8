/-
  DERIVED. GIVEN WITH THE SEED: THE CARDS: each row of YtloopeipheklpaaGreatDoorRows.lean that lists a variable, with what it lists TIED to the program's text (the seventh form; the later family's looks); each row that meets fmt, with fmt's text TOLD by the authors' own Lean function (tested against real Go, not proved from fmt's source: count such statements apart). THE CARD IS WHAT COUNTS. Prove the row's statement (the work); the ties are given (YtloopeipheklpaaGreatDoorTie.lean); close each card by the builder's one call (the guide's Derived/Test/ToyasCard.lean, 'card_holds'). Laid BY PROGRAM, IN A SANDBOX (cutbox-door.mjs). By AI agents, Wed Nov 11 2026. No macro, syntax, notation, axiom, sorry.
-/
import Derived.Test.YtloopeipheklpaaGreatDoorRows
import GoSem.ClaimSeven
namespace Go.Proofs.YtloopeipheklpaaGreatDoor
namespace Rows

/-- THE TIED CARD OF 'laws.FnExactToldFold'. -/
def fnExactToldFoldCard : Claim7 := { stood := { row := fnExactToldFoldRow, standIns := [], harness := (true, "f45984e117d6a4851f31fa94628aa20dbfa99b25107de536e795cb01e4abf03f"), looks := true }, kinds := [], alts := [], laidByText := true, laidKinds := [.sentinel, .sentinel, .sentinel, .sentinel, .sentinel, .sentinel, .sentinel, .sentinel], laidTests := true, laidLooks := .later }
def FnExactToldFoldCardSaid : Prop := Claim7.holds Tryz.pinned (.plain (OpenSpec.ofChange fnExactToldFoldSpec)) fnExactToldFoldCard

/-- THE TIED CARD OF 'laws.FnExactToldTree'. -/
def fnExactToldTreeCard : Claim7 := { stood := { row := fnExactToldTreeRow, standIns := [], harness := (true, "f45984e117d6a4851f31fa94628aa20dbfa99b25107de536e795cb01e4abf03f"), looks := true }, kinds := [], alts := [], laidByText := true, laidKinds := [.sentinel, .sentinel, .sentinel, .sentinel, .sentinel, .sentinel, .sentinel, .sentinel], laidTests := true, laidLooks := .later }
def FnExactToldTreeCardSaid : Prop := Claim7.holds Tryz.pinned (.plain (OpenSpec.ofChange fnExactToldTreeSpec)) fnExactToldTreeCard

/-- THE TIED CARD OF 'laws.FnExactToldOnce'. -/
def fnExactToldOnceCard : Claim7 := { stood := { row := fnExactToldOnceRow, standIns := [], harness := (true, "f45984e117d6a4851f31fa94628aa20dbfa99b25107de536e795cb01e4abf03f"), looks := true }, kinds := [], alts := [], laidByText := true, laidKinds := [.sentinel, .sentinel, .sentinel, .sentinel, .sentinel, .sentinel, .sentinel, .sentinel], laidTests := true, laidLooks := .later }
def FnExactToldOnceCardSaid : Prop := Claim7.holds Tryz.pinned (.plain (OpenSpec.ofChange fnExactToldOnceSpec)) fnExactToldOnceCard

/-- THE TIED CARD OF 'laws.FnExactToldTrue'. -/
def fnExactToldTrueCard : Claim7 := { stood := { row := fnExactToldTrueRow, standIns := [], harness := (true, "f45984e117d6a4851f31fa94628aa20dbfa99b25107de536e795cb01e4abf03f"), looks := true }, kinds := [], alts := [], laidByText := true, laidKinds := [.sentinel, .sentinel, .sentinel, .sentinel, .sentinel, .sentinel, .sentinel, .sentinel], laidTests := true, laidLooks := .later }
def FnExactToldTrueCardSaid : Prop := Claim7.holds Tryz.pinned (.plain (OpenSpec.ofChange fnExactToldTrueSpec)) fnExactToldTrueCard

/-- THE TIED CARD OF 'laws.FnExactKeepOk'. -/
def fnExactKeepOkCard : Claim7 := { stood := { row := fnExactKeepOkRow, standIns := [], harness := (true, "f45984e117d6a4851f31fa94628aa20dbfa99b25107de536e795cb01e4abf03f"), looks := true }, kinds := [], alts := [], laidByText := true, laidKinds := [.sentinel, .sentinel, .sentinel, .sentinel, .sentinel, .sentinel, .sentinel, .sentinel], laidTests := true, laidLooks := .later }
def FnExactKeepOkCardSaid : Prop := Claim7.holds Tryz.pinned (.plain (OpenSpec.ofChange fnExactKeepOkSpec)) fnExactKeepOkCard

/-- THE TIED CARD OF 'laws.FnExactKeepView'. -/
def fnExactKeepViewCard : Claim7 := { stood := { row := fnExactKeepViewRow, standIns := [], harness := (true, "f45984e117d6a4851f31fa94628aa20dbfa99b25107de536e795cb01e4abf03f"), looks := true }, kinds := [], alts := [], laidByText := true, laidKinds := [.sentinel, .sentinel, .sentinel, .sentinel, .sentinel, .sentinel, .sentinel, .sentinel], laidTests := true, laidLooks := .later }
def FnExactKeepViewCardSaid : Prop := Claim7.holds Tryz.pinned (.plain (OpenSpec.ofChange fnExactKeepViewSpec)) fnExactKeepViewCard

/-- THE TIED CARD OF 'laws.FnExactKeepClear'. -/
def fnExactKeepClearCard : Claim7 := { stood := { row := fnExactKeepClearRow, standIns := [], harness := (true, "f45984e117d6a4851f31fa94628aa20dbfa99b25107de536e795cb01e4abf03f"), looks := true }, kinds := [], alts := [], laidByText := true, laidKinds := [.sentinel, .sentinel, .sentinel, .sentinel, .sentinel, .sentinel, .sentinel, .sentinel], laidTests := true, laidLooks := .later }
def FnExactKeepClearCardSaid : Prop := Claim7.holds Tryz.pinned (.plain (OpenSpec.ofChange fnExactKeepClearSpec)) fnExactKeepClearCard

/-- THE TIED CARD OF 'laws.FnExactWorldOk'. -/
def fnExactWorldOkCard : Claim7 := { stood := { row := fnExactWorldOkRow, standIns := [], harness := (true, "f45984e117d6a4851f31fa94628aa20dbfa99b25107de536e795cb01e4abf03f"), looks := true }, kinds := [], alts := [], laidByText := true, laidKinds := [.sentinel, .sentinel, .sentinel, .sentinel, .sentinel, .sentinel, .sentinel, .sentinel], laidTests := true, laidLooks := .later }
def FnExactWorldOkCardSaid : Prop := Claim7.holds Tryz.pinned (.plain (OpenSpec.ofChange fnExactWorldOkSpec)) fnExactWorldOkCard

/-- THE SECOND FORM's CARD OF 'laws.FnExactToldFold'. -/
def fnExactToldFoldUptoCard : Claim7 := { stood := { row := fnExactToldFoldUptoRow, standIns := [], harness := (true, "f45984e117d6a4851f31fa94628aa20dbfa99b25107de536e795cb01e4abf03f"), looks := true }, kinds := [], alts := [], laidByText := true, laidKinds := [.sentinel, .sentinel, .sentinel, .sentinel, .sentinel, .sentinel, .sentinel, .sentinel], laidTests := true, laidLooks := .later }
def FnExactToldFoldUptoCardSaid : Prop := Claim7.holds Tryz.pinned (.plain (OpenSpec.upto fnExactToldFoldSpec)) fnExactToldFoldUptoCard

/-- THE SECOND FORM's CARD OF 'laws.FnExactToldTree'. -/
def fnExactToldTreeUptoCard : Claim7 := { stood := { row := fnExactToldTreeUptoRow, standIns := [], harness := (true, "f45984e117d6a4851f31fa94628aa20dbfa99b25107de536e795cb01e4abf03f"), looks := true }, kinds := [], alts := [], laidByText := true, laidKinds := [.sentinel, .sentinel, .sentinel, .sentinel, .sentinel, .sentinel, .sentinel, .sentinel], laidTests := true, laidLooks := .later }
def FnExactToldTreeUptoCardSaid : Prop := Claim7.holds Tryz.pinned (.plain (OpenSpec.upto fnExactToldTreeSpec)) fnExactToldTreeUptoCard

/-- THE SECOND FORM's CARD OF 'laws.FnExactToldOnce'. -/
def fnExactToldOnceUptoCard : Claim7 := { stood := { row := fnExactToldOnceUptoRow, standIns := [], harness := (true, "f45984e117d6a4851f31fa94628aa20dbfa99b25107de536e795cb01e4abf03f"), looks := true }, kinds := [], alts := [], laidByText := true, laidKinds := [.sentinel, .sentinel, .sentinel, .sentinel, .sentinel, .sentinel, .sentinel, .sentinel], laidTests := true, laidLooks := .later }
def FnExactToldOnceUptoCardSaid : Prop := Claim7.holds Tryz.pinned (.plain (OpenSpec.upto fnExactToldOnceSpec)) fnExactToldOnceUptoCard

/-- THE SECOND FORM's CARD OF 'laws.FnExactToldTrue'. -/
def fnExactToldTrueUptoCard : Claim7 := { stood := { row := fnExactToldTrueUptoRow, standIns := [], harness := (true, "f45984e117d6a4851f31fa94628aa20dbfa99b25107de536e795cb01e4abf03f"), looks := true }, kinds := [], alts := [], laidByText := true, laidKinds := [.sentinel, .sentinel, .sentinel, .sentinel, .sentinel, .sentinel, .sentinel, .sentinel], laidTests := true, laidLooks := .later }
def FnExactToldTrueUptoCardSaid : Prop := Claim7.holds Tryz.pinned (.plain (OpenSpec.upto fnExactToldTrueSpec)) fnExactToldTrueUptoCard

/-- THE SECOND FORM's CARD OF 'laws.FnExactKeepOk'. -/
def fnExactKeepOkUptoCard : Claim7 := { stood := { row := fnExactKeepOkUptoRow, standIns := [], harness := (true, "f45984e117d6a4851f31fa94628aa20dbfa99b25107de536e795cb01e4abf03f"), looks := true }, kinds := [], alts := [], laidByText := true, laidKinds := [.sentinel, .sentinel, .sentinel, .sentinel, .sentinel, .sentinel, .sentinel, .sentinel], laidTests := true, laidLooks := .later }
def FnExactKeepOkUptoCardSaid : Prop := Claim7.holds Tryz.pinned (.plain (OpenSpec.upto fnExactKeepOkSpec)) fnExactKeepOkUptoCard

/-- THE SECOND FORM's CARD OF 'laws.FnExactKeepView'. -/
def fnExactKeepViewUptoCard : Claim7 := { stood := { row := fnExactKeepViewUptoRow, standIns := [], harness := (true, "f45984e117d6a4851f31fa94628aa20dbfa99b25107de536e795cb01e4abf03f"), looks := true }, kinds := [], alts := [], laidByText := true, laidKinds := [.sentinel, .sentinel, .sentinel, .sentinel, .sentinel, .sentinel, .sentinel, .sentinel], laidTests := true, laidLooks := .later }
def FnExactKeepViewUptoCardSaid : Prop := Claim7.holds Tryz.pinned (.plain (OpenSpec.upto fnExactKeepViewSpec)) fnExactKeepViewUptoCard

/-- THE SECOND FORM's CARD OF 'laws.FnExactKeepClear'. -/
def fnExactKeepClearUptoCard : Claim7 := { stood := { row := fnExactKeepClearUptoRow, standIns := [], harness := (true, "f45984e117d6a4851f31fa94628aa20dbfa99b25107de536e795cb01e4abf03f"), looks := true }, kinds := [], alts := [], laidByText := true, laidKinds := [.sentinel, .sentinel, .sentinel, .sentinel, .sentinel, .sentinel, .sentinel, .sentinel], laidTests := true, laidLooks := .later }
def FnExactKeepClearUptoCardSaid : Prop := Claim7.holds Tryz.pinned (.plain (OpenSpec.upto fnExactKeepClearSpec)) fnExactKeepClearUptoCard

/-- THE SECOND FORM's CARD OF 'laws.FnExactWorldOk'. -/
def fnExactWorldOkUptoCard : Claim7 := { stood := { row := fnExactWorldOkUptoRow, standIns := [], harness := (true, "f45984e117d6a4851f31fa94628aa20dbfa99b25107de536e795cb01e4abf03f"), looks := true }, kinds := [], alts := [], laidByText := true, laidKinds := [.sentinel, .sentinel, .sentinel, .sentinel, .sentinel, .sentinel, .sentinel, .sentinel], laidTests := true, laidLooks := .later }
def FnExactWorldOkUptoCardSaid : Prop := Claim7.holds Tryz.pinned (.plain (OpenSpec.upto fnExactWorldOkSpec)) fnExactWorldOkUptoCard
end Rows
end Go.Proofs.YtloopeipheklpaaGreatDoor
