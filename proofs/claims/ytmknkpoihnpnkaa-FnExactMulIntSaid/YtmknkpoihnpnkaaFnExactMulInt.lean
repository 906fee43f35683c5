/- FnExactMulInt: for every two ints the law returns true. -/
import Derived.Test.YtmknkpoihnpnkaaArithI
import Derived.Test.YtmknkpoihnpnkaaArithS
namespace Go.Proofs.Ytmknkpoihnpnkaa.fnExactMulInt
open Go.ChangeShapes Go.WideShapes Go.ChangeAt Go.RowKit
set_option linter.unusedVariables false

theorem walk (a b : Int) (w : World) (wa : (Lit.int .i64 a).wf = true) (wb : (Lit.int .i64 b).wf = true) :
    Calls Try.prog 6 #[.int .i64 a, .int .i64 b] w fun e w' => e = .returned (.bool true) ∧ Below w.heap.size w w' := by
  have HS := Lib.hid (arith.spec_mul a b w (i64_bd wa) (i64_bd wb))
  have HI := Lib.hid (arith.impl_mul a b w (i64_bd wa) (i64_bd wb))
  unfold arith.two at HS HI
  generalize arith.mulF a b = o at HS HI
  go_enter Try.func6, Try.ntmps6
  go_wp2_with fail
  refine HS.out.mono ?_
  rintro e w1 ⟨rfl, rfl⟩
  go_wp2_with fail
  refine HI.out.mono ?_
  rintro e w1 ⟨rfl, rfl⟩
  go_wp2_with fail
  go_ret
  exact ⟨rfl, Below.refl _ _⟩
end Go.Proofs.Ytmknkpoihnpnkaa.fnExactMulInt
