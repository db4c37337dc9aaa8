/-
  DERIVED. GIVEN WITH THE SEED: THE CARDS: each row of YthdpimkcalmlnaaGreatDoorRows.lean that lists a variable, with what it lists TIED to the program's text (the seventh form; the later family's looks); each row that meets fmt, with fmt's text TOLD by the authors' own Lean function (tested against real Go, not proved from fmt's source: count such statements apart). THE CARD IS WHAT COUNTS. Prove the row's statement (the work); the ties are given (YthdpimkcalmlnaaGreatDoorTie.lean); close each card by the builder's one call (the guide's Derived/Test/ToyasCard.lean, 'card_holds'). Laid BY PROGRAM, IN A SANDBOX (cutbox-door.mjs). By AI agents, Wed Nov 11 2026. No macro, syntax, notation, axiom, sorry.
-/
import Derived.Test.YthdpimkcalmlnaaGreatDoorRows
import GoSem.ClaimSeven
namespace Go.Proofs.YthdpimkcalmlnaaGreatDoor
namespace Rows

/-- THE TIED CARD OF 'laws.FnExactActDo'. -/
def fnExactActDoCard : Claim7 := { stood := { row := fnExactActDoRow, standIns := [], harness := (true, "1474f076e5fa3c58d5931e4957bf0ed30bcb411dc708bd071690253563d42154"), looks := true }, kinds := [], alts := [], laidByText := true, laidKinds := [.sentinel, .sentinel, .sentinel, .sentinel, .sentinel, .sentinel, .sentinel, .sentinel], laidTests := true, laidLooks := .later }
def FnExactActDoCardSaid : Prop := Claim7.holds Tryz.pinned (.plain (OpenSpec.ofChange fnExactActDoSpec)) fnExactActDoCard

/-- THE TIED CARD OF 'laws.FnExactActAll'. -/
def fnExactActAllCard : Claim7 := { stood := { row := fnExactActAllRow, standIns := [], harness := (true, "1474f076e5fa3c58d5931e4957bf0ed30bcb411dc708bd071690253563d42154"), looks := true }, kinds := [], alts := [], laidByText := true, laidKinds := [.sentinel, .sentinel, .sentinel, .sentinel, .sentinel, .sentinel, .sentinel, .sentinel], laidTests := true, laidLooks := .later }
def FnExactActAllCardSaid : Prop := Claim7.holds Tryz.pinned (.plain (OpenSpec.ofChange fnExactActAllSpec)) fnExactActAllCard

/-- THE TIED CARD OF 'laws.FnExactShopTake'. -/
def fnExactShopTakeCard : Claim7 := { stood := { row := fnExactShopTakeRow, standIns := [], harness := (true, "1474f076e5fa3c58d5931e4957bf0ed30bcb411dc708bd071690253563d42154"), looks := true }, kinds := [], alts := [], laidByText := true, laidKinds := [.handle, .sentinel, .sentinel, .sentinel, .sentinel, .sentinel, .sentinel, .sentinel, .sentinel], laidTests := true, laidLooks := .later }
def FnExactShopTakeCardSaid : Prop := Claim7.holds Tryz.pinned (.plain (OpenSpec.ofChange fnExactShopTakeSpec)) fnExactShopTakeCard

/-- THE TIED CARD OF 'laws.FnExactShopWhy'. -/
def fnExactShopWhyCard : Claim7 := { stood := { row := fnExactShopWhyRow, standIns := [], harness := (true, "1474f076e5fa3c58d5931e4957bf0ed30bcb411dc708bd071690253563d42154"), looks := true }, kinds := [], alts := [], laidByText := true, laidKinds := [.handle, .sentinel, .sentinel, .sentinel, .sentinel, .sentinel, .sentinel, .sentinel, .sentinel], laidTests := true, laidLooks := .later }
def FnExactShopWhyCardSaid : Prop := Claim7.holds Tryz.pinned (.plain (OpenSpec.ofChange fnExactShopWhySpec)) fnExactShopWhyCard

/-- THE TIED CARD OF 'laws.FnExactMsgServe'. -/
def fnExactMsgServeCard : Claim7 := { stood := { row := fnExactMsgServeRow, standIns := [], harness := (true, "1474f076e5fa3c58d5931e4957bf0ed30bcb411dc708bd071690253563d42154"), looks := true }, kinds := [], alts := [], laidByText := true, laidKinds := [.handle, .sentinel, .sentinel, .sentinel, .sentinel, .sentinel, .sentinel, .sentinel, .sentinel], laidTests := true, laidLooks := .later }
def FnExactMsgServeCardSaid : Prop := Claim7.holds Tryz.pinned (.plain (OpenSpec.ofChange fnExactMsgServeSpec)) fnExactMsgServeCard

/-- THE SECOND FORM's CARD OF 'laws.FnExactActDo'. -/
def fnExactActDoUptoCard : Claim7 := { stood := { row := fnExactActDoUptoRow, standIns := [], harness := (true, "1474f076e5fa3c58d5931e4957bf0ed30bcb411dc708bd071690253563d42154"), looks := true }, kinds := [], alts := [], laidByText := true, laidKinds := [.sentinel, .sentinel, .sentinel, .sentinel, .sentinel, .sentinel, .sentinel, .sentinel], laidTests := true, laidLooks := .later }
def FnExactActDoUptoCardSaid : Prop := Claim7.holds Tryz.pinned (.plain (OpenSpec.upto fnExactActDoSpec)) fnExactActDoUptoCard

/-- THE SECOND FORM's CARD OF 'laws.FnExactActAll'. -/
def fnExactActAllUptoCard : Claim7 := { stood := { row := fnExactActAllUptoRow, standIns := [], harness := (true, "1474f076e5fa3c58d5931e4957bf0ed30bcb411dc708bd071690253563d42154"), looks := true }, kinds := [], alts := [], laidByText := true, laidKinds := [.sentinel, .sentinel, .sentinel, .sentinel, .sentinel, .sentinel, .sentinel, .sentinel], laidTests := true, laidLooks := .later }
def FnExactActAllUptoCardSaid : Prop := Claim7.holds Tryz.pinned (.plain (OpenSpec.upto fnExactActAllSpec)) fnExactActAllUptoCard

/-- THE SECOND FORM's CARD OF 'laws.FnExactShopTake'. -/
def fnExactShopTakeUptoCard : Claim7 := { stood := { row := fnExactShopTakeUptoRow, standIns := [], harness := (true, "1474f076e5fa3c58d5931e4957bf0ed30bcb411dc708bd071690253563d42154"), looks := true }, kinds := [], alts := [], laidByText := true, laidKinds := [.handle, .sentinel, .sentinel, .sentinel, .sentinel, .sentinel, .sentinel, .sentinel, .sentinel], laidTests := true, laidLooks := .later }
def FnExactShopTakeUptoCardSaid : Prop := Claim7.holds Tryz.pinned (.plain (OpenSpec.upto fnExactShopTakeSpec)) fnExactShopTakeUptoCard

/-- THE SECOND FORM's CARD OF 'laws.FnExactShopWhy'. -/
def fnExactShopWhyUptoCard : Claim7 := { stood := { row := fnExactShopWhyUptoRow, standIns := [], harness := (true, "1474f076e5fa3c58d5931e4957bf0ed30bcb411dc708bd071690253563d42154"), looks := true }, kinds := [], alts := [], laidByText := true, laidKinds := [.handle, .sentinel, .sentinel, .sentinel, .sentinel, .sentinel, .sentinel, .sentinel, .sentinel], laidTests := true, laidLooks := .later }
def FnExactShopWhyUptoCardSaid : Prop := Claim7.holds Tryz.pinned (.plain (OpenSpec.upto fnExactShopWhySpec)) fnExactShopWhyUptoCard

/-- THE SECOND FORM's CARD OF 'laws.FnExactMsgServe'. -/
def fnExactMsgServeUptoCard : Claim7 := { stood := { row := fnExactMsgServeUptoRow, standIns := [], harness := (true, "1474f076e5fa3c58d5931e4957bf0ed30bcb411dc708bd071690253563d42154"), looks := true }, kinds := [], alts := [], laidByText := true, laidKinds := [.handle, .sentinel, .sentinel, .sentinel, .sentinel, .sentinel, .sentinel, .sentinel, .sentinel], laidTests := true, laidLooks := .later }
def FnExactMsgServeUptoCardSaid : Prop := Claim7.holds Tryz.pinned (.plain (OpenSpec.upto fnExactMsgServeSpec)) fnExactMsgServeUptoCard
end Rows
end Go.Proofs.YthdpimkcalmlnaaGreatDoor
