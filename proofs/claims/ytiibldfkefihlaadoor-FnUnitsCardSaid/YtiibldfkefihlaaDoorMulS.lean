/- spec.MulInt. -/
import Derived.Test.YtiibldfkefihlaaDoorArithM
namespace Go.Proofs.YtiibldfkefihlaaDoor.arith
open Go.ChangeShapes Go.WideShapes Go.ChangeAt Go.RowKit
set_option linter.unusedVariables false

theorem spec_mul (a b : Int) (w : World) (ha : -9223372036854775808 ≤ a ∧ a ≤ 9223372036854775807) (hb : -9223372036854775808 ≤ b ∧ b ≤ 9223372036854775807) :
    Calls Tryd.prog 36 #[.int .i64 a, .int .i64 b] w fun e w' => e = .returned (two (mulF a b)) ∧ w = w' := by
  by_cases h1 : a < 0
  · rw [mul_no (by omega), two_none]
    go_enter Tryd.func36, Tryd.ntmps36
    go_wp2
    go_ret2
    exact ⟨rfl, rfl⟩
  by_cases h2 : b < 0
  · rw [mul_no (by omega), two_none]
    go_enter Tryd.func36, Tryd.ntmps36
    go_wp2
    go_ret2
    exact ⟨rfl, rfl⟩
  by_cases h3 : b = 0
  · subst h3
    rw [mul_yes (by omega) (by omega) (by omega), two_some, Int.mul_zero]
    go_enter Tryd.func36, Tryd.ntmps36
    go_wp2
    go_ret2
    exact ⟨rfl, rfl⟩
  have hr := room (a := a) (b := b) (by omega)
  have hn : 0 ≤ a * b := Int.mul_nonneg (by omega) (by omega)
  by_cases h4 : a ≤ 9223372036854775807 / b
  · have h5 := hr.1 h4
    rw [mul_yes (by omega) (by omega) h5, two_some]
    clear hr
    go_enter Tryd.func36, Tryd.ntmps36
    go_wp2
    go_ret2
    exact ⟨rfl, rfl⟩
  · rw [mul_no (fun h => h4 (hr.2 h.2.2)), two_none]
    clear hr
    go_enter Tryd.func36, Tryd.ntmps36
    go_wp2
    go_ret2
    exact ⟨rfl, rfl⟩
end Go.Proofs.YtiibldfkefihlaaDoor.arith
