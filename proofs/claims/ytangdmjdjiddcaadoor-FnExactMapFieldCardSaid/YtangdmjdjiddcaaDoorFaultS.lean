/- spec.l18Fault. -/
import Derived.Test.YtangdmjdjiddcaaDoorFaultB
namespace Go.Proofs.YtangdmjdjiddcaaDoor.field
open Go.ChangeShapes Go.WideShapes Go.ChangeAt Go.RowKit
set_option linter.unusedVariables false

theorem spec_fault (c : Int) (p : ByteArray) (w : World) :
    Calls Tryd.prog 36 #[.int .i64 c, .string p] w fun e w' => e = .returned (fv (c, p)) ∧ Below w.heap.size w w' := by
  go_enter Tryd.func36, Tryd.ntmps36
  go_wp2_with fail
  refine bodyPost_ret (v := fv (c, p)) ?_ rfl ⟨rfl, (Below.refl _ _).alloc (Nat.le_refl _) _⟩
  exact results_cell_row rfl _ _ w.heap.size _ _ (0, 0) _ rfl (heap_alloc_new w _) Tryd.underlying31 rfl sizeFault
end Go.Proofs.YtangdmjdjiddcaaDoor.field
