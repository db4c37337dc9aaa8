/-
  DERIVED. GIVEN WITH THE SEED: THE PROGRAM's TIES (one call each: nine closed facts by the kernel) AND EACH ROW's TIE, after the 31st guide's Derived/Test/Toyas{Tie, Card}.lean. No idea stands in it: it is a product of the set-up. Laid BY PROGRAM, IN A SANDBOX (cutbox-door.mjs). By AI agents, Wed Nov 11 2026. No macro, syntax, notation, axiom, sorry.
-/
import Derived.Test.YtloopeipheklpaaGreatDoorRows
import Derived.LaidByTextLater
import Derived.SevenTiedAt
import Derived.LaidSub
import Derived.LaidOnce
namespace Go.Proofs.YtloopeipheklpaaGreatDoor
open Go
set_option maxRecDepth 100000
theorem seatTie1 : Tryz.prog.laidByTextLater [("loop.example/shieling/impl.errDirs", Rows.laid_loop_example_shieling_impl_errDirs), ("loop.example/shieling/impl.errNone", Rows.laid_loop_example_shieling_impl_errNone), ("loop.example/shieling/impl.errThere", Rows.laid_loop_example_shieling_impl_errThere), ("loop.example/shieling/impl.errFull", Rows.laid_loop_example_shieling_impl_errFull), ("loop.example/shieling/impl.errRing", Rows.laid_loop_example_shieling_impl_errRing), ("loop.example/shieling/impl.errKind", Rows.laid_loop_example_shieling_impl_errKind), ("loop.example/shieling/impl.errUsed", Rows.laid_loop_example_shieling_impl_errUsed), ("loop.example/shieling/impl.errForm", Rows.laid_loop_example_shieling_impl_errForm)] [.sentinel, .sentinel, .sentinel, .sentinel, .sentinel, .sentinel, .sentinel, .sentinel] true :=
  Program.laidByTextLater_by_one 161 8 2 (by kernel_rfl) (by kernel_rfl) (by kernel_rfl) (by kernel_rfl) (by kernel_rfl) (by kernel_rfl) (fun _ _ => by kernel_rfl)
theorem noOwnUnsafe : Tryz.pinned.checked.prog.headLifts.contains "ownunsafe" = false := by kernel_rfl
theorem tie : Tryz.prog.laidByTextLater [("loop.example/shieling/impl.errDirs", Rows.laid_loop_example_shieling_impl_errDirs), ("loop.example/shieling/impl.errNone", Rows.laid_loop_example_shieling_impl_errNone), ("loop.example/shieling/impl.errThere", Rows.laid_loop_example_shieling_impl_errThere), ("loop.example/shieling/impl.errFull", Rows.laid_loop_example_shieling_impl_errFull), ("loop.example/shieling/impl.errRing", Rows.laid_loop_example_shieling_impl_errRing), ("loop.example/shieling/impl.errKind", Rows.laid_loop_example_shieling_impl_errKind), ("loop.example/shieling/impl.errUsed", Rows.laid_loop_example_shieling_impl_errUsed), ("loop.example/shieling/impl.errForm", Rows.laid_loop_example_shieling_impl_errForm)] [.sentinel, .sentinel, .sentinel, .sentinel, .sentinel, .sentinel, .sentinel, .sentinel] true :=
  Program.laidByTextLater.sub seatTie1 ["loop.example/shieling/impl.errDirs", "loop.example/shieling/impl.errNone", "loop.example/shieling/impl.errThere", "loop.example/shieling/impl.errFull", "loop.example/shieling/impl.errRing", "loop.example/shieling/impl.errKind", "loop.example/shieling/impl.errUsed", "loop.example/shieling/impl.errForm"] (by kernel_rfl) (by kernel_rfl)
theorem fnExactToldFold_row_tie : Rows.fnExactToldFoldRow.laidByTextAt .later Tryz.pinned [.sentinel, .sentinel, .sentinel, .sentinel, .sentinel, .sentinel, .sentinel, .sentinel] true :=
  OpenClaim.laidByTextAt_later rfl rfl tie noOwnUnsafe
theorem fnExactToldTree_row_tie : Rows.fnExactToldTreeRow.laidByTextAt .later Tryz.pinned [.sentinel, .sentinel, .sentinel, .sentinel, .sentinel, .sentinel, .sentinel, .sentinel] true :=
  OpenClaim.laidByTextAt_later rfl rfl tie noOwnUnsafe
theorem fnExactToldOnce_row_tie : Rows.fnExactToldOnceRow.laidByTextAt .later Tryz.pinned [.sentinel, .sentinel, .sentinel, .sentinel, .sentinel, .sentinel, .sentinel, .sentinel] true :=
  OpenClaim.laidByTextAt_later rfl rfl tie noOwnUnsafe
theorem fnExactToldTrue_row_tie : Rows.fnExactToldTrueRow.laidByTextAt .later Tryz.pinned [.sentinel, .sentinel, .sentinel, .sentinel, .sentinel, .sentinel, .sentinel, .sentinel] true :=
  OpenClaim.laidByTextAt_later rfl rfl tie noOwnUnsafe
theorem fnExactKeepOk_row_tie : Rows.fnExactKeepOkRow.laidByTextAt .later Tryz.pinned [.sentinel, .sentinel, .sentinel, .sentinel, .sentinel, .sentinel, .sentinel, .sentinel] true :=
  OpenClaim.laidByTextAt_later rfl rfl tie noOwnUnsafe
theorem fnExactKeepView_row_tie : Rows.fnExactKeepViewRow.laidByTextAt .later Tryz.pinned [.sentinel, .sentinel, .sentinel, .sentinel, .sentinel, .sentinel, .sentinel, .sentinel] true :=
  OpenClaim.laidByTextAt_later rfl rfl tie noOwnUnsafe
theorem fnExactKeepClear_row_tie : Rows.fnExactKeepClearRow.laidByTextAt .later Tryz.pinned [.sentinel, .sentinel, .sentinel, .sentinel, .sentinel, .sentinel, .sentinel, .sentinel] true :=
  OpenClaim.laidByTextAt_later rfl rfl tie noOwnUnsafe
theorem fnExactWorldOk_row_tie : Rows.fnExactWorldOkRow.laidByTextAt .later Tryz.pinned [.sentinel, .sentinel, .sentinel, .sentinel, .sentinel, .sentinel, .sentinel, .sentinel] true :=
  OpenClaim.laidByTextAt_later rfl rfl tie noOwnUnsafe
theorem fnExactToldFoldUpto_row_tie : Rows.fnExactToldFoldUptoRow.laidByTextAt .later Tryz.pinned [.sentinel, .sentinel, .sentinel, .sentinel, .sentinel, .sentinel, .sentinel, .sentinel] true :=
  OpenClaim.laidByTextAt_later rfl rfl tie noOwnUnsafe
theorem fnExactToldTreeUpto_row_tie : Rows.fnExactToldTreeUptoRow.laidByTextAt .later Tryz.pinned [.sentinel, .sentinel, .sentinel, .sentinel, .sentinel, .sentinel, .sentinel, .sentinel] true :=
  OpenClaim.laidByTextAt_later rfl rfl tie noOwnUnsafe
theorem fnExactToldOnceUpto_row_tie : Rows.fnExactToldOnceUptoRow.laidByTextAt .later Tryz.pinned [.sentinel, .sentinel, .sentinel, .sentinel, .sentinel, .sentinel, .sentinel, .sentinel] true :=
  OpenClaim.laidByTextAt_later rfl rfl tie noOwnUnsafe
theorem fnExactToldTrueUpto_row_tie : Rows.fnExactToldTrueUptoRow.laidByTextAt .later Tryz.pinned [.sentinel, .sentinel, .sentinel, .sentinel, .sentinel, .sentinel, .sentinel, .sentinel] true :=
  OpenClaim.laidByTextAt_later rfl rfl tie noOwnUnsafe
theorem fnExactKeepOkUpto_row_tie : Rows.fnExactKeepOkUptoRow.laidByTextAt .later Tryz.pinned [.sentinel, .sentinel, .sentinel, .sentinel, .sentinel, .sentinel, .sentinel, .sentinel] true :=
  OpenClaim.laidByTextAt_later rfl rfl tie noOwnUnsafe
theorem fnExactKeepViewUpto_row_tie : Rows.fnExactKeepViewUptoRow.laidByTextAt .later Tryz.pinned [.sentinel, .sentinel, .sentinel, .sentinel, .sentinel, .sentinel, .sentinel, .sentinel] true :=
  OpenClaim.laidByTextAt_later rfl rfl tie noOwnUnsafe
theorem fnExactKeepClearUpto_row_tie : Rows.fnExactKeepClearUptoRow.laidByTextAt .later Tryz.pinned [.sentinel, .sentinel, .sentinel, .sentinel, .sentinel, .sentinel, .sentinel, .sentinel] true :=
  OpenClaim.laidByTextAt_later rfl rfl tie noOwnUnsafe
theorem fnExactWorldOkUpto_row_tie : Rows.fnExactWorldOkUptoRow.laidByTextAt .later Tryz.pinned [.sentinel, .sentinel, .sentinel, .sentinel, .sentinel, .sentinel, .sentinel, .sentinel] true :=
  OpenClaim.laidByTextAt_later rfl rfl tie noOwnUnsafe
end Go.Proofs.YtloopeipheklpaaGreatDoor
