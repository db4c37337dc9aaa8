/- Lemmas that the proofs of this seat share: Facts, Closed. -/
import Derived.Test.YtohimbdmhljocaaRows
import Derived.ProofKit
/- The closed facts on the whole program, proved once. -/
namespace Go.Proofs.Ytohimbdmhljocaa
theorem fLaid : laidOutB Try.prog = true := by kernel_rfl
theorem fMaps : mapsRowed Try.prog = true := by kernel_rfl
theorem fStops : (Try.prog.stops == []) = true := by kernel_rfl
theorem fKnobs : (Try.prog.stopKnobs == []) = true := by kernel_rfl
theorem fKeys : (false == Try.prog.plainKeys) = true := by kernel_rfl
theorem fHeard : Try.prog.stopsHeard = true := by kernel_rfl

/-! The words of the program's head: the first three are what is asked; what comes behind them is left as it is. -/
def chars (l : List Nat) : List Char := l.map Char.ofNat
def w0 : List Nat := [104, 97, 114, 110, 101, 115, 115]
def w1 : List Nat := [56, 98, 100, 98, 101, 98, 53, 57, 56, 101, 56, 51, 53, 100, 97, 101, 51, 51, 50, 100, 56, 99, 101, 97, 55, 97, 101, 101, 57, 57, 53, 98, 100, 102, 49, 98, 98, 49, 55, 55, 50, 49, 49, 54, 99, 54, 51, 55, 98, 55, 97, 98, 56, 49, 51, 99, 48, 100, 56, 54, 99, 57, 57, 50]
def w2 : List Nat := [99, 117, 116]
def w3 : List Nat := [97, 116, 32, 108, 111, 111, 112, 46, 101, 120, 97, 109, 112, 108, 101, 47, 115, 104, 105, 101, 108, 105, 110, 103, 47, 108, 97, 119, 115, 46, 70, 110, 69, 120, 97, 99, 116, 84, 111, 108, 100, 72, 97, 115, 32, 108, 111, 111, 112, 46, 101, 120, 97, 109, 112, 108, 101, 47, 115, 104, 105, 101, 108, 105, 110, 103, 47, 108, 97, 119, 115, 46, 70, 110, 69, 120, 97, 99, 116, 87, 111, 114, 108, 100, 79, 112, 101, 110, 32, 108, 111, 111, 112, 46, 101, 120, 97, 109, 112, 108, 101, 47, 115, 104, 105, 101, 108, 105, 110, 103, 47, 108, 97, 119, 115, 46, 70, 110, 69, 120, 97, 99, 116, 87, 111, 114, 108, 100, 83, 97, 109, 101]
theorem signs_word : ∀ (l r : List Char), (l.all fun x => x.toNat != 32) = true → wordsSigns (l ++ Char.ofNat 32 :: r) = l :: wordsSigns r
  | [], r, _ => rfl
  | x :: l, r, h => by
    simp only [List.all_cons, Bool.and_eq_true, bne_iff_ne, ne_eq] at h
    have ih := signs_word l r h.2
    have hx : x ≠ Char.ofNat 32 := fun e => h.1 (by rw [e]; rfl)
    rw [List.cons_append, wordsSigns.eq_3 x _ (fun e => hx e), ih]
theorem head_chars : Try.prog.initOrder.toList = chars w0 ++ Char.ofNat 32 :: (chars w1 ++ Char.ofNat 32 :: (chars w2 ++ Char.ofNat 32 :: chars w3)) := by
  have h : (String.ofList (chars w0 ++ Char.ofNat 32 :: (chars w1 ++ Char.ofNat 32 :: (chars w2 ++ Char.ofNat 32 :: chars w3)))).toList = chars w0 ++ Char.ofNat 32 :: (chars w1 ++ Char.ofNat 32 :: (chars w2 ++ Char.ofNat 32 :: chars w3)) := String.toList_ofList
  exact (congrArg String.toList (show Try.prog.initOrder = String.ofList (chars w0 ++ Char.ofNat 32 :: (chars w1 ++ Char.ofNat 32 :: (chars w2 ++ Char.ofNat 32 :: chars w3))) by kernel_rfl)).trans h
theorem head_words : wordsSigns Try.prog.initOrder.toList = chars w0 :: chars w1 :: chars w2 :: wordsSigns (chars w3) := by
  rw [head_chars, signs_word _ _ (by kernel_rfl), signs_word _ _ (by kernel_rfl), signs_word _ _ (by kernel_rfl)]
theorem behind_main (h s : List Char) (r : List (List Char)) (e : ((h == "harness".toList || h == "ownmain".toList) && isSumSigns s) = true) : behindMainWord (h :: s :: r) = r := by
  unfold behindMainWord
  simp only [e, if_true]
theorem head_behind : ∃ ws, behindMainWord (wordsSigns Try.prog.initOrder.toList) = chars w2 :: ws :=
  ⟨_, by rw [head_words]; exact behind_main _ _ _ (by kernel_rfl)⟩
theorem lifts_of (c : List Char) (ws : List (List Char)) : ∀ (os : List String), (os.all fun o => !(c == o.toList)) = true → stripLifts os (c :: ws) = ([], c :: ws)
  | [], _ => rfl
  | o :: os, h => by
    simp only [List.all_cons, Bool.and_eq_true, Bool.not_eq_true'] at h
    unfold stripLifts
    rw [if_neg (by rw [h.1]; simp)]
    exact lifts_of c ws os h.2
theorem fLater : Try.prog.laysLater = false := by kernel_rfl
theorem fReflect : Try.prog.bearsReflect = false := by kernel_rfl
theorem fDoor : Try.prog.doorFits [] = true := by kernel_rfl
theorem lifts_head {P : Program} {c : List Char} {ws : List (List Char)} (hw : behindMainWord (wordsSigns P.initOrder.toList) = c :: ws) (hl : (liftWords.all fun o => !(c == o.toList)) = true) : P.headLifts = [] := by
  unfold Program.headLifts
  rw [hw, lifts_of c ws _ hl]
  simp only [ite_self]
theorem enter_of {P : Program} {c : List Char} {ws : List (List Char)} (hw : behindMainWord (wordsSigns P.initOrder.toList) = c :: ws) (hl : (liftWords.all fun o => !(c == o.toList)) = true)
    (hc : (some c == some "cut".toList) = true) (h1 : P.laysLater = false) (h2 : P.bearsReflect = false) (h3 : P.doorFits [] = true) : P.mayEnter = true := by
  unfold Program.mayEnter
  rw [hw]
  simp only [lifts_of c ws _ hl, h1, h2, h3, List.head?_cons, hc, List.contains_nil, Bool.not_false, Bool.or_true, Bool.and_true]
theorem final_of {P : Program} {c : List Char} {ws : List (List Char)} (hw : behindMainWord (wordsSigns P.initOrder.toList) = c :: ws) (hl : (liftWords.all fun o => !(c == o.toList)) = true)
    (hc : (some c == some "carried".toList) = false) : P.liftsFinal = false := by
  unfold Program.liftsFinal
  rw [lifts_head hw hl, hw]
  simp only [List.head?_cons, hc, Bool.false_and, List.contains_nil, Bool.or_false]
theorem make_of {P : Program} {c : List Char} {ws : List (List Char)} (hw : behindMainWord (wordsSigns P.initOrder.toList) = c :: ws)
    (h1 : (c == "gc".toList || c == "spec".toList) = false) (h2 : (c == "cut".toList) = true) : P.make = some .cut := by
  unfold Program.make
  rw [hw]
  simp only [h1, h2, Bool.true_or, if_true, Bool.false_eq_true, if_false]
theorem fEnter : Try.prog.mayEnter = true := by
  obtain ⟨ws, hw⟩ := head_behind
  exact enter_of hw (by kernel_rfl) (by kernel_rfl) fLater fReflect fDoor
theorem fFinal : (Rows.fnExactWorldOpenRow.lifted == Try.prog.liftsFinal) = true := by
  obtain ⟨ws, hw⟩ := head_behind
  rw [final_of hw (by kernel_rfl) (by kernel_rfl)]; rfl
theorem fMake : (Try.prog.make == some Rows.fnExactWorldOpenRow.make) = true := by
  obtain ⟨ws, hw⟩ := head_behind
  rw [make_of hw (by kernel_rfl) (by kernel_rfl)]; rfl
end Go.Proofs.Ytohimbdmhljocaa

/- A row's closed facts out of those on the whole program and out of those on one function. -/
namespace Go.Proofs.Ytohimbdmhljocaa
theorem band {a b : Bool} (h : a = true) (k : b = true) : (a && b) = true := by rw [h, k]; rfl
theorem closedOf {f : FuncId} {fn : Func} {s : ChangeSpec} {c : OpenClaim}
    (e1 : c.plainKeys = false) (e2 : c.lifted = Rows.fnExactWorldOpenRow.lifted) (e3 : c.make = Rows.fnExactWorldOpenRow.make)
    (k1 : c.wf (OpenSpec.ofChange s) = true) (k2 : fn.params.all (Try.prog.readableRec ·) = true) (k3 : namedTie Try.prog c.named s.vars = true)
    (k4 : (c.stops == []) = true) (k5 : (c.knobs == []) = true)
    (k6 : (c.inPlace == Try.prog.inPlace f) = true) (k7 : (c.unfollowed == Try.prog.unfollowed f) = true) (k8 : (c.recurses == Try.prog.recurses f) = true) (k9 : (c.named == Try.prog.varsNamed f) = true)
    (k10 : (c.maps == (fn.params.toList ++ s.plain.varTypes Try.prog).any (Try.prog.mapsRec ·)) = true) (k11 : (c.ifaces == (fn.params.toList ++ s.plain.varTypes Try.prog).any (Try.prog.ifacesRec ·)) = true) (k12 : (c.mapsOut == Try.prog.mapsAmong fn.resultTypes.toList) = true)
    (k13 : (c.loops == (fn.params.toList ++ s.plain.varTypes Try.prog).any (Try.prog.loopsFrom ·)) = true) (k14 : (c.wideKeys == (fn.params.toList ++ s.plain.varTypes Try.prog ++ fn.resultTypes.toList).any (Try.prog.wideKeysFrom ·)) = true)
    (k15 : s.vars.all (Try.prog.varReadable ·) = true) (k16 : fn.resultTypes.all (fun t => Try.prog.readableRec t && decide (t < Try.prog.types.size)) = true) (k17 : (c.ifacesOut == fn.resultTypes.toList.any (Try.prog.ifacesRec ·)) = true) (k18 : (c.loopsOut == fn.resultTypes.toList.any (Try.prog.loopsFrom ·)) = true)
    (k19 : c.shortTexts.isNone = true)
    (k20 : c.domain = []) (k20' : c.kinds = []) (k21 : (c.pinned == c.pinnedBy) = true)
    (k22 : (c.veiled == (fn.params.toList ++ s.plain.varTypes Try.prog ++ fn.resultTypes.toList).any (Try.prog.veiledRec ·)) = true) (k23 : c.veiledFits Try.prog fn.params.toList (fn.params.toList ++ s.plain.varTypes Try.prog ++ fn.resultTypes.toList) = true) :
    joinedFacts Try.prog f fn s c = true := by
  have m1 : (c.plainKeys == Try.prog.plainKeys) = true := by rw [e1]; exact fKeys
  have m2 : (c.lifted == Try.prog.liftsFinal) = true := by rw [e2]; exact fFinal
  have m3 : (Try.prog.make == some c.make) = true := by rw [e3]; exact fMake
  have m4 := fLaid
  have m5 := fMaps
  have m6 := fStops
  have m7 := fKnobs
  have m8 := fHeard
  have m9 := fEnter
  unfold joinedFacts
  repeat' (with_reducible apply band)
  all_goals (first | with_reducible assumption | (rw [k20, k20']; rfl))
end Go.Proofs.Ytohimbdmhljocaa
