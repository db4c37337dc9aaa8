/- The closed facts on the whole program, proved once. -/
import Derived.Test.YtppagjgpfmnekaaRows
import Derived.ProofKit
namespace Go.Proofs.Ytppagjgpfmnekaa
theorem fLaid : laidOutB Try.prog = true := by kernel_rfl
theorem fMaps : mapsRowed Try.prog = true := by kernel_rfl
theorem fStops : (Try.prog.stops == []) = true := by kernel_rfl
theorem fKnobs : (Try.prog.stopKnobs == []) = true := by kernel_rfl
theorem fKeys : (true == Try.prog.plainKeys) = true := by kernel_rfl
theorem fHeard : Try.prog.stopsHeard = true := by kernel_rfl

/-! The words of the program's head: the first three are what is asked; what comes behind them is left as it is. -/
def chars (l : List Nat) : List Char := l.map Char.ofNat
def w0 : List Nat := [104, 97, 114, 110, 101, 115, 115]
def w1 : List Nat := [48, 48, 48, 51, 101, 50, 56, 50, 49, 54, 97, 97, 102, 53, 50, 49, 54, 53, 97, 50, 57, 57, 48, 48, 52, 57, 55, 101, 55, 56, 51, 54, 49, 55, 52, 57, 55, 49, 97, 57, 98, 50, 51, 100, 54, 54, 55, 98, 48, 48, 102, 53, 99, 52, 49, 54, 52, 97, 51, 57, 99, 98, 98, 98]
def w2 : List Nat := [99, 117, 116]
def w3 : List Nat := [97, 116, 32, 108, 111, 111, 112, 46, 101, 120, 97, 109, 112, 108, 101, 47, 115, 104, 105, 101, 108, 105, 110, 103, 47, 108, 97, 119, 115, 46, 70, 110, 69, 120, 97, 99, 116, 75, 101, 101, 112, 79, 112, 101, 110]
theorem signs_word : ∀ (l r : List Char), (l.all fun x => x.toNat != 32) = true → wordsSigns (l ++ Char.ofNat 32 :: r) = l :: wordsSigns r
  | [], r, _ => rfl
  | x :: l, r, h => by
    simp only [List.all_cons, Bool.and_eq_true, bne_iff_ne, ne_eq] at h
    have ih := signs_word l r h.2
    have hx : x ≠ Char.ofNat 32 := fun e => h.1 (by rw [e]; rfl)
    rw [List.cons_append, wordsSigns.eq_3 x _ (fun e => hx e), ih]
theorem head_chars : Try.prog.initOrder.toList = chars w0 ++ Char.ofNat 32 :: (chars w1 ++ Char.ofNat 32 :: (chars w2 ++ Char.ofNat 32 :: chars w3)) := by
  have h : (String.ofList (chars w0 ++ Char.ofNat 32 :: (chars w1 ++ Char.ofNat 32 :: (chars w2 ++ Char.ofNat 32 :: chars w3)))).toList = chars w0 ++ Char.ofNat 32 :: (chars w1 ++ Char.ofNat 32 :: (chars w2 ++ Char.ofNat 32 :: chars w3)) := String.toList_ofList
  exact (congrArg String.toList (show Try.prog.initOrder = String.ofList (chars w0 ++ Char.ofNat 32 :: (chars w1 ++ Char.ofNat 32 :: (chars w2 ++ Char.ofNat 32 :: chars w3))) by kernel_rfl)).trans h
theorem head_words : wordsSigns Try.prog.initOrder.toList = chars w0 :: chars w1 :: chars w2 :: wordsSigns (chars w3) := by
  rw [head_chars, signs_word _ _ (by kernel_rfl), signs_word _ _ (by kernel_rfl), signs_word _ _ (by kernel_rfl)]
theorem behind_main (h s : List Char) (r : List (List Char)) (e : ((h == "harness".toList || h == "ownmain".toList) && isSumSigns s) = true) : behindMainWord (h :: s :: r) = r := by
  unfold behindMainWord
  simp only [e, if_true]
theorem head_behind : ∃ ws, behindMainWord (wordsSigns Try.prog.initOrder.toList) = chars w2 :: ws :=
  ⟨_, by rw [head_words]; exact behind_main _ _ _ (by kernel_rfl)⟩
theorem lifts_of (c : List Char) (ws : List (List Char)) : ∀ (os : List String), (os.all fun o => !(c == o.toList)) = true → stripLifts os (c :: ws) = ([], c :: ws)
  | [], _ => rfl
  | o :: os, h => by
    simp only [List.all_cons, Bool.and_eq_true, Bool.not_eq_true'] at h
    unfold stripLifts
    rw [if_neg (by rw [h.1]; simp)]
    exact lifts_of c ws os h.2
theorem fLater : Try.prog.laysLater = false := by kernel_rfl
theorem fReflect : Try.prog.bearsReflect = false := by kernel_rfl
theorem fDoor : Try.prog.doorFits [] = true := by kernel_rfl
theorem lifts_head {P : Program} {c : List Char} {ws : List (List Char)} (hw : behindMainWord (wordsSigns P.initOrder.toList) = c :: ws) (hl : (liftWords.all fun o => !(c == o.toList)) = true) : P.headLifts = [] := by
  unfold Program.headLifts
  rw [hw, lifts_of c ws _ hl]
  simp only [ite_self]
theorem enter_of {P : Program} {c : List Char} {ws : List (List Char)} (hw : behindMainWord (wordsSigns P.initOrder.toList) = c :: ws) (hl : (liftWords.all fun o => !(c == o.toList)) = true)
    (hc : (some c == some "cut".toList) = true) (h1 : P.laysLater = false) (h2 : P.bearsReflect = false) (h3 : P.doorFits [] = true) : P.mayEnter = true := by
  unfold Program.mayEnter
  rw [hw]
  simp only [lifts_of c ws _ hl, h1, h2, h3, List.head?_cons, hc, List.contains_nil, Bool.not_false, Bool.or_true, Bool.and_true]
theorem final_of {P : Program} {c : List Char} {ws : List (List Char)} (hw : behindMainWord (wordsSigns P.initOrder.toList) = c :: ws) (hl : (liftWords.all fun o => !(c == o.toList)) = true)
    (hc : (some c == some "carried".toList) = false) : P.liftsFinal = false := by
  unfold Program.liftsFinal
  rw [lifts_head hw hl, hw]
  simp only [List.head?_cons, hc, Bool.false_and, List.contains_nil, Bool.or_false]
theorem make_of {P : Program} {c : List Char} {ws : List (List Char)} (hw : behindMainWord (wordsSigns P.initOrder.toList) = c :: ws)
    (h1 : (c == "gc".toList || c == "spec".toList) = false) (h2 : (c == "cut".toList) = true) : P.make = some .cut := by
  unfold Program.make
  rw [hw]
  simp only [h1, h2, Bool.true_or, if_true, Bool.false_eq_true, if_false]
theorem fEnter : Try.prog.mayEnter = true := by
  obtain ⟨ws, hw⟩ := head_behind
  exact enter_of hw (by kernel_rfl) (by kernel_rfl) fLater fReflect fDoor
theorem fFinal : (Rows.fnExactKeepOpenRow.lifted == Try.prog.liftsFinal) = true := by
  obtain ⟨ws, hw⟩ := head_behind
  rw [final_of hw (by kernel_rfl) (by kernel_rfl)]; rfl
theorem fMake : (Try.prog.make == some Rows.fnExactKeepOpenRow.make) = true := by
  obtain ⟨ws, hw⟩ := head_behind
  rw [make_of hw (by kernel_rfl) (by kernel_rfl)]; rfl
end Go.Proofs.Ytppagjgpfmnekaa
