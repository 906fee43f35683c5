/- FnExactFixedText: the law returns true at every argument. -/
import Derived.Test.YtfpnhpocjelmfaaFixI
import Derived.Test.YtfpnhpocjelmfaaFixS
namespace Go.Proofs.Ytfpnhpocjelmfaa.fnExactFixedText
open Go.ChangeShapes Go.WideShapes Go.ChangeAt Go.RowKit
set_option linter.unusedVariables false

theorem walk (n : Int) (k : Int) (W : World) (hn : (Lit.int .i64 n).wf = true) (hk : (Lit.int .i64 k).wf = true) :
    Calls Try.prog 8 #[.int .i64 n, .int .i64 k] W fun e w' => e = .returned (.bool true) ∧ Below W.heap.size W w' := by
  have bn := i64_bd hn
  have bk := i64_bd hk
  have HS := Lib.hid (fun W => fixed.spec_any n k W bn.2)
  have HI := Lib.hid (fun W => fixed.impl_any n k W bn.2)
  generalize fixed.fixF n k = v at HS HI
  go_enter Try.func8, Try.ntmps8
  go_wp2_with fail
  refine (HS.out _).mono ?_
  rintro e w1 ⟨rfl, hb1⟩
  go_wp2_with fail
  refine (HI.out _).mono ?_
  rintro e w2 ⟨rfl, hb2⟩
  go_wp2_with fail
  go_ret
  exact ⟨rfl, hb1.trans (hb2.mono hb1.size)⟩
end Go.Proofs.Ytfpnhpocjelmfaa.fnExactFixedText
