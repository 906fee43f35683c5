/-
  DERIVED. GIVEN WITH THE SEED: THE PROGRAM's TIES (one call each: nine closed facts by the kernel) AND EACH ROW's TIE, after the 31st guide's Derived/Test/Toyas{Tie, Card}.lean. No idea stands in it: it is a product of the set-up. Laid BY PROGRAM, IN A SANDBOX (cutbox-door.mjs). By AI agents, Wed Nov 11 2026. No macro, syntax, notation, axiom, sorry.
-/
import Derived.Test.YtljahpngngmecaaDoorRows
import Derived.LaidByTextLater
import Derived.SevenTiedAt
import Derived.LaidSub
import Derived.LaidOnce
namespace Go.Proofs.YtljahpngngmecaaDoor
open Go
set_option maxRecDepth 100000
theorem seatTie1 : Tryd.prog.laidByTextLater [("loop.example/g00968/impl.errFrameShort", Rows.laid_loop_example_g00968_impl_errFrameShort), ("loop.example/g00968/impl.errFrameMagic", Rows.laid_loop_example_g00968_impl_errFrameMagic), ("loop.example/g00968/impl.errFrameVersion", Rows.laid_loop_example_g00968_impl_errFrameVersion), ("loop.example/g00968/impl.errFrameLength", Rows.laid_loop_example_g00968_impl_errFrameLength), ("loop.example/g00968/impl.errFrameSum", Rows.laid_loop_example_g00968_impl_errFrameSum)] [.sentinel, .sentinel, .sentinel, .sentinel, .sentinel] true :=
  Program.laidByTextLater_by_one 104 8 2 (by kernel_rfl) (by kernel_rfl) (by kernel_rfl) (by kernel_rfl) (by kernel_rfl) (by kernel_rfl) (fun _ _ => by kernel_rfl)
theorem noOwnUnsafe : Tryd.pinned.checked.prog.headLifts.contains "ownunsafe" = false := by kernel_rfl
theorem tie : Tryd.prog.laidByTextLater [("loop.example/g00968/impl.errFrameShort", Rows.laid_loop_example_g00968_impl_errFrameShort), ("loop.example/g00968/impl.errFrameMagic", Rows.laid_loop_example_g00968_impl_errFrameMagic), ("loop.example/g00968/impl.errFrameVersion", Rows.laid_loop_example_g00968_impl_errFrameVersion), ("loop.example/g00968/impl.errFrameLength", Rows.laid_loop_example_g00968_impl_errFrameLength), ("loop.example/g00968/impl.errFrameSum", Rows.laid_loop_example_g00968_impl_errFrameSum)] [.sentinel, .sentinel, .sentinel, .sentinel, .sentinel] true :=
  Program.laidByTextLater.sub seatTie1 ["loop.example/g00968/impl.errFrameShort", "loop.example/g00968/impl.errFrameMagic", "loop.example/g00968/impl.errFrameVersion", "loop.example/g00968/impl.errFrameLength", "loop.example/g00968/impl.errFrameSum"] (by kernel_rfl) (by kernel_rfl)
theorem fnFrames_row_tie : Rows.fnFramesRow.laidByTextAt .later Tryd.pinned [.sentinel, .sentinel, .sentinel, .sentinel, .sentinel] true :=
  OpenClaim.laidByTextAt_later rfl rfl tie noOwnUnsafe
theorem fnFrameBursts_row_tie : Rows.fnFrameBurstsRow.laidByTextAt .later Tryd.pinned [.sentinel, .sentinel, .sentinel, .sentinel, .sentinel] true :=
  OpenClaim.laidByTextAt_later rfl rfl tie noOwnUnsafe
theorem fnExactReadFrame_row_tie : Rows.fnExactReadFrameRow.laidByTextAt .later Tryd.pinned [.sentinel, .sentinel, .sentinel, .sentinel, .sentinel] true :=
  OpenClaim.laidByTextAt_later rfl rfl tie noOwnUnsafe
theorem fnExactVersionIn_row_tie : Rows.fnExactVersionInRow.laidByTextAt .later Tryd.pinned [.sentinel, .sentinel, .sentinel, .sentinel, .sentinel] true :=
  OpenClaim.laidByTextAt_later rfl rfl tie noOwnUnsafe
theorem fnExactReframed_row_tie : Rows.fnExactReframedRow.laidByTextAt .later Tryd.pinned [.sentinel, .sentinel, .sentinel, .sentinel, .sentinel] true :=
  OpenClaim.laidByTextAt_later rfl rfl tie noOwnUnsafe
theorem fnFramesUpto_row_tie : Rows.fnFramesUptoRow.laidByTextAt .later Tryd.pinned [.sentinel, .sentinel, .sentinel, .sentinel, .sentinel] true :=
  OpenClaim.laidByTextAt_later rfl rfl tie noOwnUnsafe
theorem fnFrameBurstsUpto_row_tie : Rows.fnFrameBurstsUptoRow.laidByTextAt .later Tryd.pinned [.sentinel, .sentinel, .sentinel, .sentinel, .sentinel] true :=
  OpenClaim.laidByTextAt_later rfl rfl tie noOwnUnsafe
theorem fnExactReadFrameUpto_row_tie : Rows.fnExactReadFrameUptoRow.laidByTextAt .later Tryd.pinned [.sentinel, .sentinel, .sentinel, .sentinel, .sentinel] true :=
  OpenClaim.laidByTextAt_later rfl rfl tie noOwnUnsafe
theorem fnExactVersionInUpto_row_tie : Rows.fnExactVersionInUptoRow.laidByTextAt .later Tryd.pinned [.sentinel, .sentinel, .sentinel, .sentinel, .sentinel] true :=
  OpenClaim.laidByTextAt_later rfl rfl tie noOwnUnsafe
theorem fnExactReframedUpto_row_tie : Rows.fnExactReframedUptoRow.laidByTextAt .later Tryd.pinned [.sentinel, .sentinel, .sentinel, .sentinel, .sentinel] true :=
  OpenClaim.laidByTextAt_later rfl rfl tie noOwnUnsafe
end Go.Proofs.YtljahpngngmecaaDoor
