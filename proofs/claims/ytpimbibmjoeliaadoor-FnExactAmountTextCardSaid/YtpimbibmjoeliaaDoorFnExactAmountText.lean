/- FnExactAmountText: the law returns true at every argument. -/
import Derived.Test.YtpimbibmjoeliaaDoorAmtTextI
import Derived.Test.YtpimbibmjoeliaaDoorAmtTextS
namespace Go.Proofs.YtpimbibmjoeliaaDoor.fnExactAmountText
open Go.ChangeShapes Go.WideShapes Go.ChangeAt Go.RowKit
set_option linter.unusedVariables false

theorem walk (n : Int) (W : World) (hn : (Lit.int .i64 n).wf = true) (hP : decimal.Pow W) :
    Calls Tryd.prog 7 #[.int .i64 n] W fun e w' => e = .returned (.bool true) ∧ Below W.heap.size W w' := by
  have HS := Lib.hid (fun w => amount.spec_text n w (i64_bd hn).1 (i64_bd hn).2)
  have HI := Lib.hid (fun w1 (hb : Below W.heap.size W w1) => amount.impl_text n w1 (i64_bd hn).1 (i64_bd hn).2 (hP.below hb))
  clear hP
  generalize amount.textF n = x at HS HI
  go_enter Tryd.func7, Tryd.ntmps7
  go_wp2_with fail
  refine (HS.out _).mono ?_
  rintro e w1 ⟨rfl, hb1⟩
  go_wp2_with fail
  refine (HI.out _ hb1).mono ?_
  rintro e w2 ⟨rfl, hb2⟩
  go_wp2_with fail
  go_ret
  exact ⟨rfl, hb1.trans (hb2.mono hb1.size)⟩
end Go.Proofs.YtpimbibmjoeliaaDoor.fnExactAmountText
