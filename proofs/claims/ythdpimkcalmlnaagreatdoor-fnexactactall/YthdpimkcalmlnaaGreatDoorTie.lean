/-
  DERIVED. GIVEN WITH THE SEED: THE PROGRAM's TIES (one call each: nine closed facts by the kernel) AND EACH ROW's TIE, after the 31st guide's Derived/Test/Toyas{Tie, Card}.lean. No idea stands in it: it is a product of the set-up. Laid BY PROGRAM, IN A SANDBOX (cutbox-door.mjs). By AI agents, Wed Nov 11 2026. No macro, syntax, notation, axiom, sorry.
-/
import Derived.Test.YthdpimkcalmlnaaGreatDoorRows
import Derived.LaidByTextLater
import Derived.SevenTiedAt
import Derived.LaidSub
import Derived.LaidOnce
namespace Go.Proofs.YthdpimkcalmlnaaGreatDoor
open Go
set_option maxRecDepth 100000
theorem seatTie1 : Tryz.prog.laidByTextLater [("errors.errorType", Rows.laid_errors_errorType), ("loop.example/shieling/impl.errDirs", Rows.laid_loop_example_shieling_impl_errDirs), ("loop.example/shieling/impl.errNone", Rows.laid_loop_example_shieling_impl_errNone), ("loop.example/shieling/impl.errThere", Rows.laid_loop_example_shieling_impl_errThere), ("loop.example/shieling/impl.errFull", Rows.laid_loop_example_shieling_impl_errFull), ("loop.example/shieling/impl.errRing", Rows.laid_loop_example_shieling_impl_errRing), ("loop.example/shieling/impl.errKind", Rows.laid_loop_example_shieling_impl_errKind), ("loop.example/shieling/impl.errUsed", Rows.laid_loop_example_shieling_impl_errUsed), ("loop.example/shieling/impl.errForm", Rows.laid_loop_example_shieling_impl_errForm)] [.handle, .sentinel, .sentinel, .sentinel, .sentinel, .sentinel, .sentinel, .sentinel, .sentinel] true :=
  Program.laidByTextLater_by_one 168 8 2 (by kernel_rfl) (by kernel_rfl) (by kernel_rfl) (by kernel_rfl) (by kernel_rfl) (by kernel_rfl) (fun _ _ => by kernel_rfl)
theorem noOwnUnsafe : Tryz.pinned.checked.prog.headLifts.contains "ownunsafe" = false := by kernel_rfl
theorem tie : Tryz.prog.laidByTextLater [("loop.example/shieling/impl.errDirs", Rows.laid_loop_example_shieling_impl_errDirs), ("loop.example/shieling/impl.errNone", Rows.laid_loop_example_shieling_impl_errNone), ("loop.example/shieling/impl.errThere", Rows.laid_loop_example_shieling_impl_errThere), ("loop.example/shieling/impl.errFull", Rows.laid_loop_example_shieling_impl_errFull), ("loop.example/shieling/impl.errRing", Rows.laid_loop_example_shieling_impl_errRing), ("loop.example/shieling/impl.errKind", Rows.laid_loop_example_shieling_impl_errKind), ("loop.example/shieling/impl.errUsed", Rows.laid_loop_example_shieling_impl_errUsed), ("loop.example/shieling/impl.errForm", Rows.laid_loop_example_shieling_impl_errForm)] [.sentinel, .sentinel, .sentinel, .sentinel, .sentinel, .sentinel, .sentinel, .sentinel] true :=
  Program.laidByTextLater.sub seatTie1 ["loop.example/shieling/impl.errDirs", "loop.example/shieling/impl.errNone", "loop.example/shieling/impl.errThere", "loop.example/shieling/impl.errFull", "loop.example/shieling/impl.errRing", "loop.example/shieling/impl.errKind", "loop.example/shieling/impl.errUsed", "loop.example/shieling/impl.errForm"] (by kernel_rfl) (by kernel_rfl)
theorem fnExactActDo_row_tie : Rows.fnExactActDoRow.laidByTextAt .later Tryz.pinned [.sentinel, .sentinel, .sentinel, .sentinel, .sentinel, .sentinel, .sentinel, .sentinel] true :=
  OpenClaim.laidByTextAt_later rfl rfl tie noOwnUnsafe
theorem fnExactActAll_row_tie : Rows.fnExactActAllRow.laidByTextAt .later Tryz.pinned [.sentinel, .sentinel, .sentinel, .sentinel, .sentinel, .sentinel, .sentinel, .sentinel] true :=
  OpenClaim.laidByTextAt_later rfl rfl tie noOwnUnsafe
theorem tie2 : Tryz.prog.laidByTextLater [("errors.errorType", Rows.laid_errors_errorType), ("loop.example/shieling/impl.errDirs", Rows.laid_loop_example_shieling_impl_errDirs), ("loop.example/shieling/impl.errNone", Rows.laid_loop_example_shieling_impl_errNone), ("loop.example/shieling/impl.errThere", Rows.laid_loop_example_shieling_impl_errThere), ("loop.example/shieling/impl.errFull", Rows.laid_loop_example_shieling_impl_errFull), ("loop.example/shieling/impl.errRing", Rows.laid_loop_example_shieling_impl_errRing), ("loop.example/shieling/impl.errKind", Rows.laid_loop_example_shieling_impl_errKind), ("loop.example/shieling/impl.errUsed", Rows.laid_loop_example_shieling_impl_errUsed), ("loop.example/shieling/impl.errForm", Rows.laid_loop_example_shieling_impl_errForm)] [.handle, .sentinel, .sentinel, .sentinel, .sentinel, .sentinel, .sentinel, .sentinel, .sentinel] true :=
  Program.laidByTextLater.sub seatTie1 ["errors.errorType", "loop.example/shieling/impl.errDirs", "loop.example/shieling/impl.errNone", "loop.example/shieling/impl.errThere", "loop.example/shieling/impl.errFull", "loop.example/shieling/impl.errRing", "loop.example/shieling/impl.errKind", "loop.example/shieling/impl.errUsed", "loop.example/shieling/impl.errForm"] (by kernel_rfl) (by kernel_rfl)
theorem fnExactShopTake_row_tie : Rows.fnExactShopTakeRow.laidByTextAt .later Tryz.pinned [.handle, .sentinel, .sentinel, .sentinel, .sentinel, .sentinel, .sentinel, .sentinel, .sentinel] true :=
  OpenClaim.laidByTextAt_later rfl rfl tie2 noOwnUnsafe
theorem fnExactShopWhy_row_tie : Rows.fnExactShopWhyRow.laidByTextAt .later Tryz.pinned [.handle, .sentinel, .sentinel, .sentinel, .sentinel, .sentinel, .sentinel, .sentinel, .sentinel] true :=
  OpenClaim.laidByTextAt_later rfl rfl tie2 noOwnUnsafe
theorem fnExactMsgServe_row_tie : Rows.fnExactMsgServeRow.laidByTextAt .later Tryz.pinned [.handle, .sentinel, .sentinel, .sentinel, .sentinel, .sentinel, .sentinel, .sentinel, .sentinel] true :=
  OpenClaim.laidByTextAt_later rfl rfl tie2 noOwnUnsafe
theorem fnExactActDoUpto_row_tie : Rows.fnExactActDoUptoRow.laidByTextAt .later Tryz.pinned [.sentinel, .sentinel, .sentinel, .sentinel, .sentinel, .sentinel, .sentinel, .sentinel] true :=
  OpenClaim.laidByTextAt_later rfl rfl tie noOwnUnsafe
theorem fnExactActAllUpto_row_tie : Rows.fnExactActAllUptoRow.laidByTextAt .later Tryz.pinned [.sentinel, .sentinel, .sentinel, .sentinel, .sentinel, .sentinel, .sentinel, .sentinel] true :=
  OpenClaim.laidByTextAt_later rfl rfl tie noOwnUnsafe
theorem fnExactShopTakeUpto_row_tie : Rows.fnExactShopTakeUptoRow.laidByTextAt .later Tryz.pinned [.handle, .sentinel, .sentinel, .sentinel, .sentinel, .sentinel, .sentinel, .sentinel, .sentinel] true :=
  OpenClaim.laidByTextAt_later rfl rfl tie2 noOwnUnsafe
theorem fnExactShopWhyUpto_row_tie : Rows.fnExactShopWhyUptoRow.laidByTextAt .later Tryz.pinned [.handle, .sentinel, .sentinel, .sentinel, .sentinel, .sentinel, .sentinel, .sentinel, .sentinel] true :=
  OpenClaim.laidByTextAt_later rfl rfl tie2 noOwnUnsafe
theorem fnExactMsgServeUpto_row_tie : Rows.fnExactMsgServeUptoRow.laidByTextAt .later Tryz.pinned [.handle, .sentinel, .sentinel, .sentinel, .sentinel, .sentinel, .sentinel, .sentinel, .sentinel] true :=
  OpenClaim.laidByTextAt_later rfl rfl tie2 noOwnUnsafe
end Go.Proofs.YthdpimkcalmlnaaGreatDoor
