/- A row's closed facts out of those on the whole program and out of those on one function. -/
import Derived.Test.YtppagjgpfmnekaaFacts
namespace Go.Proofs.Ytppagjgpfmnekaa
theorem band {a b : Bool} (h : a = true) (k : b = true) : (a && b) = true := by rw [h, k]; rfl
theorem closedOf {f : FuncId} {fn : Func} {s : ChangeSpec} {c : OpenClaim}
    (e1 : c.plainKeys = true) (e2 : c.lifted = Rows.fnExactKeepOpenRow.lifted) (e3 : c.make = Rows.fnExactKeepOpenRow.make)
    (k1 : c.wf (OpenSpec.ofChange s) = true) (k2 : fn.params.all (Try.prog.readableRec ·) = true) (k3 : namedTie Try.prog c.named s.vars = true)
    (k4 : (c.stops == []) = true) (k5 : (c.knobs == []) = true)
    (k6 : (c.inPlace == Try.prog.inPlace f) = true) (k7 : (c.unfollowed == Try.prog.unfollowed f) = true) (k8 : (c.recurses == Try.prog.recurses f) = true) (k9 : (c.named == Try.prog.varsNamed f) = true)
    (k10 : (c.maps == (fn.params.toList ++ s.plain.varTypes Try.prog).any (Try.prog.mapsRec ·)) = true) (k11 : (c.ifaces == (fn.params.toList ++ s.plain.varTypes Try.prog).any (Try.prog.ifacesRec ·)) = true) (k12 : (c.mapsOut == Try.prog.mapsAmong fn.resultTypes.toList) = true)
    (k13 : (c.loops == (fn.params.toList ++ s.plain.varTypes Try.prog).any (Try.prog.loopsFrom ·)) = true) (k14 : (c.wideKeys == (fn.params.toList ++ s.plain.varTypes Try.prog ++ fn.resultTypes.toList).any (Try.prog.wideKeysFrom ·)) = true)
    (k15 : s.vars.all (Try.prog.varReadable ·) = true) (k16 : fn.resultTypes.all (fun t => Try.prog.readableRec t && decide (t < Try.prog.types.size)) = true) (k17 : (c.ifacesOut == fn.resultTypes.toList.any (Try.prog.ifacesRec ·)) = true) (k18 : (c.loopsOut == fn.resultTypes.toList.any (Try.prog.loopsFrom ·)) = true)
    (k19 : c.shortTexts.isNone = true)
    (k20 : c.domain = []) (k20' : c.kinds = []) (k21 : (c.pinned == c.pinnedBy) = true)
    (k22 : (c.veiled == (fn.params.toList ++ s.plain.varTypes Try.prog ++ fn.resultTypes.toList).any (Try.prog.veiledRec ·)) = true) (k23 : c.veiledFits Try.prog fn.params.toList (fn.params.toList ++ s.plain.varTypes Try.prog ++ fn.resultTypes.toList) = true) :
    joinedFacts Try.prog f fn s c = true := by
  have m1 : (c.plainKeys == Try.prog.plainKeys) = true := by rw [e1]; exact fKeys
  have m2 : (c.lifted == Try.prog.liftsFinal) = true := by rw [e2]; exact fFinal
  have m3 : (Try.prog.make == some c.make) = true := by rw [e3]; exact fMake
  have m4 := fLaid
  have m5 := fMaps
  have m6 := fStops
  have m7 := fKnobs
  have m8 := fHeard
  have m9 := fEnter
  unfold joinedFacts
  repeat' (with_reducible apply band)
  all_goals (first | with_reducible assumption | (rw [k20, k20']; rfl))
end Go.Proofs.Ytppagjgpfmnekaa
