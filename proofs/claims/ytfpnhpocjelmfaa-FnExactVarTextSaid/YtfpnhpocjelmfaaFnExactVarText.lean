/- FnExactVarText: the law returns true at every argument. -/
import Derived.Test.YtfpnhpocjelmfaaVarI
import Derived.Test.YtfpnhpocjelmfaaVarS
namespace Go.Proofs.Ytfpnhpocjelmfaa.fnExactVarText
open Go.ChangeShapes Go.WideShapes Go.ChangeAt Go.RowKit
set_option linter.unusedVariables false

theorem walk (n : Int) (W : World) (hn : (Lit.int .i64 n).wf = true) :
    Calls Try.prog 5 #[.int .i64 n] W fun e w' => e = .returned (.bool true) ∧ Below W.heap.size W w' := by
  have bn := i64_bd hn
  have HS := Lib.hid (fun W => varint.spec_any n W bn)
  have HI := Lib.hid (fun W => varint.impl_any n W bn.2)
  generalize varint.varF n = v at HS HI
  go_enter Try.func5, Try.ntmps5
  go_wp2_with fail
  refine (HS.out _).mono ?_
  rintro e w1 ⟨rfl, hb1⟩
  go_wp2_with fail
  refine (HI.out _).mono ?_
  rintro e w2 ⟨rfl, hb2⟩
  go_wp2_with fail
  go_ret
  exact ⟨rfl, hb1.trans (hb2.mono hb1.size)⟩
end Go.Proofs.Ytfpnhpocjelmfaa.fnExactVarText
