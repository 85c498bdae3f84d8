/-
  DERIVED. GIVEN WITH THE SEED: THE PROGRAM's TIES (one call each: nine closed facts by the kernel) AND EACH ROW's TIE, after the 31st guide's Derived/Test/Toyas{Tie, Card}.lean. No idea stands in it: it is a product of the set-up. Laid BY PROGRAM, IN A SANDBOX (cutbox-door.mjs). By AI agents, Wed Nov 11 2026. No macro, syntax, notation, axiom, sorry.
-/
import Derived.Test.YtggobhpjfflooaaDoorRows
import Derived.LaidByTextLater
import Derived.SevenTiedAt
import Derived.LaidSub
import Derived.LaidOnce
namespace Go.Proofs.YtggobhpjfflooaaDoor
open Go
set_option maxRecDepth 100000
theorem seatTie1 : Tryd.prog.laidByTextLater [("errors.errorType", Rows.laid_errors_errorType), ("loop.example/g00548/impl.errBoxLong", Rows.laid_loop_example_g00548_impl_errBoxLong), ("loop.example/g00548/impl.errBoxSize", Rows.laid_loop_example_g00548_impl_errBoxSize), ("loop.example/g00548/impl.errBoxTag", Rows.laid_loop_example_g00548_impl_errBoxTag)] [.handle, .sentinel, .sentinel, .sentinel] true :=
  Program.laidByTextLater_by_one 73 8 2 (by kernel_rfl) (by kernel_rfl) (by kernel_rfl) (by kernel_rfl) (by kernel_rfl) (by kernel_rfl) (fun _ _ => by kernel_rfl)
theorem noOwnUnsafe : Tryd.pinned.checked.prog.headLifts.contains "ownunsafe" = false := by kernel_rfl
theorem tie : Tryd.prog.laidByTextLater [("loop.example/g00548/impl.errBoxLong", Rows.laid_loop_example_g00548_impl_errBoxLong), ("loop.example/g00548/impl.errBoxSize", Rows.laid_loop_example_g00548_impl_errBoxSize), ("loop.example/g00548/impl.errBoxTag", Rows.laid_loop_example_g00548_impl_errBoxTag)] [.sentinel, .sentinel, .sentinel] true :=
  Program.laidByTextLater.sub seatTie1 ["loop.example/g00548/impl.errBoxLong", "loop.example/g00548/impl.errBoxSize", "loop.example/g00548/impl.errBoxTag"] (by kernel_rfl) (by kernel_rfl)
theorem fnBox_row_tie : Rows.fnBoxRow.laidByTextAt .later Tryd.pinned [.sentinel, .sentinel, .sentinel] true :=
  OpenClaim.laidByTextAt_later rfl rfl tie noOwnUnsafe
theorem fnExactOpenBox_row_tie : Rows.fnExactOpenBoxRow.laidByTextAt .later Tryd.pinned [.sentinel, .sentinel, .sentinel] true :=
  OpenClaim.laidByTextAt_later rfl rfl tie noOwnUnsafe
theorem tie2 : Tryd.prog.laidByTextLater [("loop.example/g00548/impl.errBoxLong", Rows.laid_loop_example_g00548_impl_errBoxLong), ("loop.example/g00548/impl.errBoxSize", Rows.laid_loop_example_g00548_impl_errBoxSize)] [.sentinel, .sentinel] true :=
  Program.laidByTextLater.sub seatTie1 ["loop.example/g00548/impl.errBoxLong", "loop.example/g00548/impl.errBoxSize"] (by kernel_rfl) (by kernel_rfl)
theorem fnExactSealBox_row_tie : Rows.fnExactSealBoxRow.laidByTextAt .later Tryd.pinned [.sentinel, .sentinel] true :=
  OpenClaim.laidByTextAt_later rfl rfl tie2 noOwnUnsafe
theorem fnExactBoxTag_row_tie : Rows.fnExactBoxTagRow.laidByTextAt .later Tryd.pinned [.sentinel, .sentinel] true :=
  OpenClaim.laidByTextAt_later rfl rfl tie2 noOwnUnsafe
theorem tie3 : Tryd.prog.laidByTextLater [("errors.errorType", Rows.laid_errors_errorType), ("loop.example/g00548/impl.errBoxLong", Rows.laid_loop_example_g00548_impl_errBoxLong), ("loop.example/g00548/impl.errBoxSize", Rows.laid_loop_example_g00548_impl_errBoxSize)] [.handle, .sentinel, .sentinel] true :=
  Program.laidByTextLater.sub seatTie1 ["errors.errorType", "loop.example/g00548/impl.errBoxLong", "loop.example/g00548/impl.errBoxSize"] (by kernel_rfl) (by kernel_rfl)
theorem fnExactNonceOf_row_tie : Rows.fnExactNonceOfRow.laidByTextAt .later Tryd.pinned [.handle, .sentinel, .sentinel] true :=
  OpenClaim.laidByTextAt_later rfl rfl tie3 noOwnUnsafe
theorem fnExactSealAt_row_tie : Rows.fnExactSealAtRow.laidByTextAt .later Tryd.pinned [.handle, .sentinel, .sentinel] true :=
  OpenClaim.laidByTextAt_later rfl rfl tie3 noOwnUnsafe
theorem fnExactIntsText_row_tie : Rows.fnExactIntsTextRow.laidByTextAt .later Tryd.pinned [.handle, .sentinel, .sentinel] true :=
  OpenClaim.laidByTextAt_later rfl rfl tie3 noOwnUnsafe
theorem fnExactTextInts_row_tie : Rows.fnExactTextIntsRow.laidByTextAt .later Tryd.pinned [.handle, .sentinel, .sentinel] true :=
  OpenClaim.laidByTextAt_later rfl rfl tie3 noOwnUnsafe
theorem fnBoxUpto_row_tie : Rows.fnBoxUptoRow.laidByTextAt .later Tryd.pinned [.sentinel, .sentinel, .sentinel] true :=
  OpenClaim.laidByTextAt_later rfl rfl tie noOwnUnsafe
theorem fnExactSealBoxUpto_row_tie : Rows.fnExactSealBoxUptoRow.laidByTextAt .later Tryd.pinned [.sentinel, .sentinel] true :=
  OpenClaim.laidByTextAt_later rfl rfl tie2 noOwnUnsafe
theorem fnExactOpenBoxUpto_row_tie : Rows.fnExactOpenBoxUptoRow.laidByTextAt .later Tryd.pinned [.sentinel, .sentinel, .sentinel] true :=
  OpenClaim.laidByTextAt_later rfl rfl tie noOwnUnsafe
theorem fnExactBoxTagUpto_row_tie : Rows.fnExactBoxTagUptoRow.laidByTextAt .later Tryd.pinned [.sentinel, .sentinel] true :=
  OpenClaim.laidByTextAt_later rfl rfl tie2 noOwnUnsafe
theorem fnExactNonceOfUpto_row_tie : Rows.fnExactNonceOfUptoRow.laidByTextAt .later Tryd.pinned [.handle, .sentinel, .sentinel] true :=
  OpenClaim.laidByTextAt_later rfl rfl tie3 noOwnUnsafe
theorem fnExactSealAtUpto_row_tie : Rows.fnExactSealAtUptoRow.laidByTextAt .later Tryd.pinned [.handle, .sentinel, .sentinel] true :=
  OpenClaim.laidByTextAt_later rfl rfl tie3 noOwnUnsafe
theorem fnExactIntsTextUpto_row_tie : Rows.fnExactIntsTextUptoRow.laidByTextAt .later Tryd.pinned [.handle, .sentinel, .sentinel] true :=
  OpenClaim.laidByTextAt_later rfl rfl tie3 noOwnUnsafe
theorem fnExactTextIntsUpto_row_tie : Rows.fnExactTextIntsUptoRow.laidByTextAt .later Tryd.pinned [.handle, .sentinel, .sentinel] true :=
  OpenClaim.laidByTextAt_later rfl rfl tie3 noOwnUnsafe
end Go.Proofs.YtggobhpjfflooaaDoor
