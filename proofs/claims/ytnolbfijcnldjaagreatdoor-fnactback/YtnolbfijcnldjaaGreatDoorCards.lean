/-
  DERIVED. GIVEN WITH THE SEED: THE CARDS: each row of YtnolbfijcnldjaaGreatDoorRows.lean that lists a variable, with what it lists TIED to the program's text (the seventh form; the later family's looks); each row that meets fmt, with fmt's text TOLD by the authors' own Lean function (tested against real Go, not proved from fmt's source: count such statements apart). THE CARD IS WHAT COUNTS. Prove the row's statement (the work); the ties are given (YtnolbfijcnldjaaGreatDoorTie.lean); close each card by the builder's one call (the guide's Derived/Test/ToyasCard.lean, 'card_holds'). Laid BY PROGRAM, IN A SANDBOX (cutbox-door.mjs). By AI agents, Wed Nov 11 2026. No macro, syntax, notation, axiom, sorry.
-/
import Derived.Test.YtnolbfijcnldjaaGreatDoorRows
import GoSem.ClaimSeven
namespace Go.Proofs.YtnolbfijcnldjaaGreatDoor
namespace Rows

/-- THE TIED CARD OF 'laws.FnAct'. -/
def fnActCard : Claim7 := { stood := { row := fnActRow, standIns := [], harness := (true, "b378a9c7c5044af4ee4147a67ef297156a1603b4301ba60bc4187df912c72770"), looks := true }, kinds := [], alts := [], laidByText := true, laidKinds := [.sentinel, .sentinel, .sentinel, .sentinel, .sentinel, .sentinel, .sentinel, .sentinel], laidTests := true, laidLooks := .later }
def FnActCardSaid : Prop := Claim7.holds Tryz.pinned (.plain (OpenSpec.ofChange fnActSpec)) fnActCard

/-- THE TIED CARD OF 'laws.FnActBack'. -/
def fnActBackCard : Claim7 := { stood := { row := fnActBackRow, standIns := [], harness := (true, "b378a9c7c5044af4ee4147a67ef297156a1603b4301ba60bc4187df912c72770"), looks := true }, kinds := [], alts := [], laidByText := true, laidKinds := [.sentinel, .sentinel, .sentinel, .sentinel, .sentinel, .sentinel, .sentinel, .sentinel], laidTests := true, laidLooks := .later }
def FnActBackCardSaid : Prop := Claim7.holds Tryz.pinned (.plain (OpenSpec.ofChange fnActBackSpec)) fnActBackCard

/-- THE TIED CARD OF 'laws.FnActAll'. -/
def fnActAllCard : Claim7 := { stood := { row := fnActAllRow, standIns := [], harness := (true, "b378a9c7c5044af4ee4147a67ef297156a1603b4301ba60bc4187df912c72770"), looks := true }, kinds := [], alts := [], laidByText := true, laidKinds := [.sentinel, .sentinel, .sentinel, .sentinel, .sentinel, .sentinel, .sentinel, .sentinel], laidTests := true, laidLooks := .later }
def FnActAllCardSaid : Prop := Claim7.holds Tryz.pinned (.plain (OpenSpec.ofChange fnActAllSpec)) fnActAllCard

/-- THE TIED CARD OF 'laws.FnActOrder'. -/
def fnActOrderCard : Claim7 := { stood := { row := fnActOrderRow, standIns := [], harness := (true, "b378a9c7c5044af4ee4147a67ef297156a1603b4301ba60bc4187df912c72770"), looks := true }, kinds := [], alts := [], laidByText := true, laidKinds := [.sentinel, .sentinel, .sentinel, .sentinel, .sentinel, .sentinel, .sentinel, .sentinel], laidTests := true, laidLooks := .later }
def FnActOrderCardSaid : Prop := Claim7.holds Tryz.pinned (.plain (OpenSpec.ofChange fnActOrderSpec)) fnActOrderCard

/-- THE TIED CARD OF 'laws.FnActFresh'. -/
def fnActFreshCard : Claim7 := { stood := { row := fnActFreshRow, standIns := [], harness := (true, "b378a9c7c5044af4ee4147a67ef297156a1603b4301ba60bc4187df912c72770"), looks := true }, kinds := [], alts := [], laidByText := true, laidKinds := [.sentinel, .sentinel, .sentinel, .sentinel, .sentinel, .sentinel, .sentinel, .sentinel], laidTests := true, laidLooks := .later }
def FnActFreshCardSaid : Prop := Claim7.holds Tryz.pinned (.plain (OpenSpec.ofChange fnActFreshSpec)) fnActFreshCard

/-- THE TIED CARD OF 'laws.FnActCode'. -/
def fnActCodeCard : Claim7 := { stood := { row := fnActCodeRow, standIns := [], harness := (true, "b378a9c7c5044af4ee4147a67ef297156a1603b4301ba60bc4187df912c72770"), looks := true }, kinds := [], alts := [], laidByText := true, laidKinds := [.sentinel, .sentinel, .sentinel, .sentinel, .sentinel, .sentinel, .sentinel, .sentinel], laidTests := true, laidLooks := .later }
def FnActCodeCardSaid : Prop := Claim7.holds Tryz.pinned (.plain (OpenSpec.ofChange fnActCodeSpec)) fnActCodeCard

/-- THE TIED CARD OF 'laws.FnActTurn'. -/
def fnActTurnCard : Claim7 := { stood := { row := fnActTurnRow, standIns := [], harness := (true, "b378a9c7c5044af4ee4147a67ef297156a1603b4301ba60bc4187df912c72770"), looks := true }, kinds := [], alts := [], laidByText := true, laidKinds := [.sentinel, .sentinel, .sentinel, .sentinel, .sentinel, .sentinel, .sentinel, .sentinel], laidTests := true, laidLooks := .later }
def FnActTurnCardSaid : Prop := Claim7.holds Tryz.pinned (.plain (OpenSpec.ofChange fnActTurnSpec)) fnActTurnCard

/-- THE TIED CARD OF 'laws.FnSlim'. -/
def fnSlimCard : Claim7 := { stood := { row := fnSlimRow, standIns := [], harness := (true, "b378a9c7c5044af4ee4147a67ef297156a1603b4301ba60bc4187df912c72770"), looks := true }, kinds := [], alts := [], laidByText := true, laidKinds := [.sentinel, .sentinel, .sentinel, .sentinel, .sentinel, .sentinel, .sentinel, .sentinel], laidTests := true, laidLooks := .later }
def FnSlimCardSaid : Prop := Claim7.holds Tryz.pinned (.plain (OpenSpec.ofChange fnSlimSpec)) fnSlimCard

/-- THE TIED CARD OF 'laws.FnSlimRules'. -/
def fnSlimRulesCard : Claim7 := { stood := { row := fnSlimRulesRow, standIns := [], harness := (true, "b378a9c7c5044af4ee4147a67ef297156a1603b4301ba60bc4187df912c72770"), looks := true }, kinds := [], alts := [], laidByText := true, laidKinds := [.sentinel, .sentinel, .sentinel, .sentinel, .sentinel, .sentinel, .sentinel, .sentinel], laidTests := true, laidLooks := .later }
def FnSlimRulesCardSaid : Prop := Claim7.holds Tryz.pinned (.plain (OpenSpec.ofChange fnSlimRulesSpec)) fnSlimRulesCard

/-- THE TIED CARD OF 'laws.FnSlimUndo'. -/
def fnSlimUndoCard : Claim7 := { stood := { row := fnSlimUndoRow, standIns := [], harness := (true, "b378a9c7c5044af4ee4147a67ef297156a1603b4301ba60bc4187df912c72770"), looks := true }, kinds := [], alts := [], laidByText := true, laidKinds := [.sentinel, .sentinel, .sentinel, .sentinel, .sentinel, .sentinel, .sentinel, .sentinel], laidTests := true, laidLooks := .later }
def FnSlimUndoCardSaid : Prop := Claim7.holds Tryz.pinned (.plain (OpenSpec.ofChange fnSlimUndoSpec)) fnSlimUndoCard

/-- THE TIED CARD OF 'laws.FnSlimJoin'. -/
def fnSlimJoinCard : Claim7 := { stood := { row := fnSlimJoinRow, standIns := [], harness := (true, "b378a9c7c5044af4ee4147a67ef297156a1603b4301ba60bc4187df912c72770"), looks := true }, kinds := [], alts := [], laidByText := true, laidKinds := [.sentinel, .sentinel, .sentinel, .sentinel, .sentinel, .sentinel, .sentinel, .sentinel], laidTests := true, laidLooks := .later }
def FnSlimJoinCardSaid : Prop := Claim7.holds Tryz.pinned (.plain (OpenSpec.ofChange fnSlimJoinSpec)) fnSlimJoinCard

/-- THE TIED CARD OF 'laws.FnLogTurned'. -/
def fnLogTurnedCard : Claim7 := { stood := { row := fnLogTurnedRow, standIns := [], harness := (true, "b378a9c7c5044af4ee4147a67ef297156a1603b4301ba60bc4187df912c72770"), looks := true }, kinds := [], alts := [], laidByText := true, laidKinds := [.sentinel, .sentinel, .sentinel, .sentinel, .sentinel, .sentinel, .sentinel, .sentinel], laidTests := true, laidLooks := .later }
def FnLogTurnedCardSaid : Prop := Claim7.holds Tryz.pinned (.plain (OpenSpec.ofChange fnLogTurnedSpec)) fnLogTurnedCard

/-- THE TIED CARD OF 'laws.FnExactActDo'. -/
def fnExactActDoCard : Claim7 := { stood := { row := fnExactActDoRow, standIns := [], harness := (true, "b378a9c7c5044af4ee4147a67ef297156a1603b4301ba60bc4187df912c72770"), looks := true }, kinds := [], alts := [], laidByText := true, laidKinds := [.sentinel, .sentinel, .sentinel, .sentinel, .sentinel, .sentinel, .sentinel, .sentinel], laidTests := true, laidLooks := .later }
def FnExactActDoCardSaid : Prop := Claim7.holds Tryz.pinned (.plain (OpenSpec.ofChange fnExactActDoSpec)) fnExactActDoCard

/-- THE TIED CARD OF 'laws.FnExactActAll'. -/
def fnExactActAllCard : Claim7 := { stood := { row := fnExactActAllRow, standIns := [], harness := (true, "b378a9c7c5044af4ee4147a67ef297156a1603b4301ba60bc4187df912c72770"), looks := true }, kinds := [], alts := [], laidByText := true, laidKinds := [.sentinel, .sentinel, .sentinel, .sentinel, .sentinel, .sentinel, .sentinel, .sentinel], laidTests := true, laidLooks := .later }
def FnExactActAllCardSaid : Prop := Claim7.holds Tryz.pinned (.plain (OpenSpec.ofChange fnExactActAllSpec)) fnExactActAllCard

/-- THE SECOND FORM's CARD OF 'laws.FnAct'. -/
def fnActUptoCard : Claim7 := { stood := { row := fnActUptoRow, standIns := [], harness := (true, "b378a9c7c5044af4ee4147a67ef297156a1603b4301ba60bc4187df912c72770"), looks := true }, kinds := [], alts := [], laidByText := true, laidKinds := [.sentinel, .sentinel, .sentinel, .sentinel, .sentinel, .sentinel, .sentinel, .sentinel], laidTests := true, laidLooks := .later }
def FnActUptoCardSaid : Prop := Claim7.holds Tryz.pinned (.plain (OpenSpec.upto fnActSpec)) fnActUptoCard

/-- THE SECOND FORM's CARD OF 'laws.FnActBack'. -/
def fnActBackUptoCard : Claim7 := { stood := { row := fnActBackUptoRow, standIns := [], harness := (true, "b378a9c7c5044af4ee4147a67ef297156a1603b4301ba60bc4187df912c72770"), looks := true }, kinds := [], alts := [], laidByText := true, laidKinds := [.sentinel, .sentinel, .sentinel, .sentinel, .sentinel, .sentinel, .sentinel, .sentinel], laidTests := true, laidLooks := .later }
def FnActBackUptoCardSaid : Prop := Claim7.holds Tryz.pinned (.plain (OpenSpec.upto fnActBackSpec)) fnActBackUptoCard

/-- THE SECOND FORM's CARD OF 'laws.FnActAll'. -/
def fnActAllUptoCard : Claim7 := { stood := { row := fnActAllUptoRow, standIns := [], harness := (true, "b378a9c7c5044af4ee4147a67ef297156a1603b4301ba60bc4187df912c72770"), looks := true }, kinds := [], alts := [], laidByText := true, laidKinds := [.sentinel, .sentinel, .sentinel, .sentinel, .sentinel, .sentinel, .sentinel, .sentinel], laidTests := true, laidLooks := .later }
def FnActAllUptoCardSaid : Prop := Claim7.holds Tryz.pinned (.plain (OpenSpec.upto fnActAllSpec)) fnActAllUptoCard

/-- THE SECOND FORM's CARD OF 'laws.FnActOrder'. -/
def fnActOrderUptoCard : Claim7 := { stood := { row := fnActOrderUptoRow, standIns := [], harness := (true, "b378a9c7c5044af4ee4147a67ef297156a1603b4301ba60bc4187df912c72770"), looks := true }, kinds := [], alts := [], laidByText := true, laidKinds := [.sentinel, .sentinel, .sentinel, .sentinel, .sentinel, .sentinel, .sentinel, .sentinel], laidTests := true, laidLooks := .later }
def FnActOrderUptoCardSaid : Prop := Claim7.holds Tryz.pinned (.plain (OpenSpec.upto fnActOrderSpec)) fnActOrderUptoCard

/-- THE SECOND FORM's CARD OF 'laws.FnActFresh'. -/
def fnActFreshUptoCard : Claim7 := { stood := { row := fnActFreshUptoRow, standIns := [], harness := (true, "b378a9c7c5044af4ee4147a67ef297156a1603b4301ba60bc4187df912c72770"), looks := true }, kinds := [], alts := [], laidByText := true, laidKinds := [.sentinel, .sentinel, .sentinel, .sentinel, .sentinel, .sentinel, .sentinel, .sentinel], laidTests := true, laidLooks := .later }
def FnActFreshUptoCardSaid : Prop := Claim7.holds Tryz.pinned (.plain (OpenSpec.upto fnActFreshSpec)) fnActFreshUptoCard

/-- THE SECOND FORM's CARD OF 'laws.FnActCode'. -/
def fnActCodeUptoCard : Claim7 := { stood := { row := fnActCodeUptoRow, standIns := [], harness := (true, "b378a9c7c5044af4ee4147a67ef297156a1603b4301ba60bc4187df912c72770"), looks := true }, kinds := [], alts := [], laidByText := true, laidKinds := [.sentinel, .sentinel, .sentinel, .sentinel, .sentinel, .sentinel, .sentinel, .sentinel], laidTests := true, laidLooks := .later }
def FnActCodeUptoCardSaid : Prop := Claim7.holds Tryz.pinned (.plain (OpenSpec.upto fnActCodeSpec)) fnActCodeUptoCard

/-- THE SECOND FORM's CARD OF 'laws.FnActTurn'. -/
def fnActTurnUptoCard : Claim7 := { stood := { row := fnActTurnUptoRow, standIns := [], harness := (true, "b378a9c7c5044af4ee4147a67ef297156a1603b4301ba60bc4187df912c72770"), looks := true }, kinds := [], alts := [], laidByText := true, laidKinds := [.sentinel, .sentinel, .sentinel, .sentinel, .sentinel, .sentinel, .sentinel, .sentinel], laidTests := true, laidLooks := .later }
def FnActTurnUptoCardSaid : Prop := Claim7.holds Tryz.pinned (.plain (OpenSpec.upto fnActTurnSpec)) fnActTurnUptoCard

/-- THE SECOND FORM's CARD OF 'laws.FnSlim'. -/
def fnSlimUptoCard : Claim7 := { stood := { row := fnSlimUptoRow, standIns := [], harness := (true, "b378a9c7c5044af4ee4147a67ef297156a1603b4301ba60bc4187df912c72770"), looks := true }, kinds := [], alts := [], laidByText := true, laidKinds := [.sentinel, .sentinel, .sentinel, .sentinel, .sentinel, .sentinel, .sentinel, .sentinel], laidTests := true, laidLooks := .later }
def FnSlimUptoCardSaid : Prop := Claim7.holds Tryz.pinned (.plain (OpenSpec.upto fnSlimSpec)) fnSlimUptoCard

/-- THE SECOND FORM's CARD OF 'laws.FnSlimRules'. -/
def fnSlimRulesUptoCard : Claim7 := { stood := { row := fnSlimRulesUptoRow, standIns := [], harness := (true, "b378a9c7c5044af4ee4147a67ef297156a1603b4301ba60bc4187df912c72770"), looks := true }, kinds := [], alts := [], laidByText := true, laidKinds := [.sentinel, .sentinel, .sentinel, .sentinel, .sentinel, .sentinel, .sentinel, .sentinel], laidTests := true, laidLooks := .later }
def FnSlimRulesUptoCardSaid : Prop := Claim7.holds Tryz.pinned (.plain (OpenSpec.upto fnSlimRulesSpec)) fnSlimRulesUptoCard

/-- THE SECOND FORM's CARD OF 'laws.FnSlimUndo'. -/
def fnSlimUndoUptoCard : Claim7 := { stood := { row := fnSlimUndoUptoRow, standIns := [], harness := (true, "b378a9c7c5044af4ee4147a67ef297156a1603b4301ba60bc4187df912c72770"), looks := true }, kinds := [], alts := [], laidByText := true, laidKinds := [.sentinel, .sentinel, .sentinel, .sentinel, .sentinel, .sentinel, .sentinel, .sentinel], laidTests := true, laidLooks := .later }
def FnSlimUndoUptoCardSaid : Prop := Claim7.holds Tryz.pinned (.plain (OpenSpec.upto fnSlimUndoSpec)) fnSlimUndoUptoCard

/-- THE SECOND FORM's CARD OF 'laws.FnSlimJoin'. -/
def fnSlimJoinUptoCard : Claim7 := { stood := { row := fnSlimJoinUptoRow, standIns := [], harness := (true, "b378a9c7c5044af4ee4147a67ef297156a1603b4301ba60bc4187df912c72770"), looks := true }, kinds := [], alts := [], laidByText := true, laidKinds := [.sentinel, .sentinel, .sentinel, .sentinel, .sentinel, .sentinel, .sentinel, .sentinel], laidTests := true, laidLooks := .later }
def FnSlimJoinUptoCardSaid : Prop := Claim7.holds Tryz.pinned (.plain (OpenSpec.upto fnSlimJoinSpec)) fnSlimJoinUptoCard

/-- THE SECOND FORM's CARD OF 'laws.FnLogTurned'. -/
def fnLogTurnedUptoCard : Claim7 := { stood := { row := fnLogTurnedUptoRow, standIns := [], harness := (true, "b378a9c7c5044af4ee4147a67ef297156a1603b4301ba60bc4187df912c72770"), looks := true }, kinds := [], alts := [], laidByText := true, laidKinds := [.sentinel, .sentinel, .sentinel, .sentinel, .sentinel, .sentinel, .sentinel, .sentinel], laidTests := true, laidLooks := .later }
def FnLogTurnedUptoCardSaid : Prop := Claim7.holds Tryz.pinned (.plain (OpenSpec.upto fnLogTurnedSpec)) fnLogTurnedUptoCard

/-- THE SECOND FORM's CARD OF 'laws.FnExactActDo'. -/
def fnExactActDoUptoCard : Claim7 := { stood := { row := fnExactActDoUptoRow, standIns := [], harness := (true, "b378a9c7c5044af4ee4147a67ef297156a1603b4301ba60bc4187df912c72770"), looks := true }, kinds := [], alts := [], laidByText := true, laidKinds := [.sentinel, .sentinel, .sentinel, .sentinel, .sentinel, .sentinel, .sentinel, .sentinel], laidTests := true, laidLooks := .later }
def FnExactActDoUptoCardSaid : Prop := Claim7.holds Tryz.pinned (.plain (OpenSpec.upto fnExactActDoSpec)) fnExactActDoUptoCard

/-- THE SECOND FORM's CARD OF 'laws.FnExactActAll'. -/
def fnExactActAllUptoCard : Claim7 := { stood := { row := fnExactActAllUptoRow, standIns := [], harness := (true, "b378a9c7c5044af4ee4147a67ef297156a1603b4301ba60bc4187df912c72770"), looks := true }, kinds := [], alts := [], laidByText := true, laidKinds := [.sentinel, .sentinel, .sentinel, .sentinel, .sentinel, .sentinel, .sentinel, .sentinel], laidTests := true, laidLooks := .later }
def FnExactActAllUptoCardSaid : Prop := Claim7.holds Tryz.pinned (.plain (OpenSpec.upto fnExactActAllSpec)) fnExactActAllUptoCard
end Rows
end Go.Proofs.YtnolbfijcnldjaaGreatDoor
