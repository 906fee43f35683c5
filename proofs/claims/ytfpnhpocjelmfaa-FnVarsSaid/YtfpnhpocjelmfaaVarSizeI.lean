/- impl.VarSize. -/
import Derived.Test.YtfpnhpocjelmfaaVarI
namespace Go.Proofs.Ytfpnhpocjelmfaa.varint
open Go.ChangeShapes Go.WideShapes Go.ChangeAt Go.RowKit
set_option linter.unusedVariables false

theorem impl_size (n : Int) (w : World) (hn : n ≤ 9223372036854775807) :
    Calls Try.prog 16 #[.int .i64 n] w fun e w' => e = .returned (.int .i64 ((varF n).size : Int)) ∧ Below w.heap.size w w' := by
  have HV := Lib.hid (fun w => impl_any n w hn)
  have h9 := varF_size hn
  generalize varF n = v at HV h9
  clear hn
  go_enter Try.func16, Try.ntmps16
  go_wp2_with fail
  refine (HV.out _).mono ?_
  rintro e w1 ⟨rfl, hb⟩
  go_wp2_with fail
  go_ret
  exact ⟨rfl, hb⟩
end Go.Proofs.Ytfpnhpocjelmfaa.varint
