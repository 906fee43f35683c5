/- impl.AddInt. -/
import Derived.Test.YtmknkpoihnpnkaaArithM
namespace Go.Proofs.Ytmknkpoihnpnkaa.arith
open Go.ChangeShapes Go.WideShapes Go.ChangeAt Go.RowKit
set_option linter.unusedVariables false

theorem impl_add (a b : Int) (w : World) (ha : -9223372036854775808 ≤ a ∧ a ≤ 9223372036854775807) (hb : -9223372036854775808 ≤ b ∧ b ≤ 9223372036854775807) :
    Calls Try.prog 12 #[.int .i64 a, .int .i64 b] w fun e w' => e = .returned (two (addF a b)) ∧ w = w' := by
  by_cases h1 : a < 0
  · rw [add_no (by omega), two_none]
    go_enter Try.func12, Try.ntmps12
    go_wp2
    go_ret2
    exact ⟨rfl, rfl⟩
  by_cases h2 : b < 0
  · rw [add_no (by omega), two_none]
    go_enter Try.func12, Try.ntmps12
    go_wp2
    go_ret2
    exact ⟨rfl, rfl⟩
  by_cases h3 : 9223372036854775807 - b < a
  · rw [add_no (by omega), two_none]
    go_enter Try.func12, Try.ntmps12
    go_wp2
    go_ret2
    exact ⟨rfl, rfl⟩
  · rw [add_yes (by omega) (by omega) (by omega), two_some]
    go_enter Try.func12, Try.ntmps12
    go_wp2
    go_ret2
    exact ⟨rfl, rfl⟩
end Go.Proofs.Ytmknkpoihnpnkaa.arith
