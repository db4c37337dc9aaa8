/- The closed facts on the whole program, proved once. -/
import Derived.Test.YtnfcmognkahccaaRows
import Derived.ProofKit
namespace Go.Proofs.Ytnfcmognkahccaa
theorem fLaid : laidOutB Try.prog = true := by kernel_rfl
theorem fMaps : mapsRowed Try.prog = true := by kernel_rfl
theorem fStops : (Try.prog.stops == []) = true := by kernel_rfl
theorem fKnobs : (Try.prog.stopKnobs == []) = true := by kernel_rfl
theorem fKeys : (true == Try.prog.plainKeys) = true := by kernel_rfl
theorem fHeard : Try.prog.stopsHeard = true := by kernel_rfl
theorem fEnter : Try.prog.mayEnter = true := by kernel_rfl
theorem fFinal : (Rows.fnExactTreeWordRow.lifted == Try.prog.liftsFinal) = true := by kernel_rfl
theorem fMake : (Try.prog.make == some Rows.fnExactTreeWordRow.make) = true := by kernel_rfl
end Go.Proofs.Ytnfcmognkahccaa
