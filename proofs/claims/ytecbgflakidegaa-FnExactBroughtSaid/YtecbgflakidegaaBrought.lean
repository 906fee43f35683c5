/- FnExactBrought: for every three ints the law returns true. No condition. -/
import Derived.Test.YtecbgflakidegaaRows
import Derived.WalkKit
import Derived.ProofKit
import Derived.OpenShut
import Derived.Below
namespace Go.Proofs.Ytecbgflakidegaa.fnExactBrought
open Go.ChangeShapes Go.WideShapes Go.ChangeAt Go.RowKit
set_option linter.unusedVariables false

/-- n brought into the range l to m. -/
def bro (n l m : Int) : Int := if m < l ∨ n < l then l else if n > m then m else n

theorem ret_int {k : IntKind} {a b : Int} (h : a = b) : Ending.returned (.int k a) = .returned (.int k b) := by rw [h]

theorem bro_low {n l m : Int} (h : m < l ∨ n < l) : bro n l m = l := by unfold bro; rw [if_pos h]
theorem bro_top {n l m : Int} (h1 : l ≤ m) (h2 : l ≤ n) (h3 : m < n) : bro n l m = m := by unfold bro; rw [if_neg (by omega), if_pos h3]
theorem bro_mid {n l m : Int} (h1 : l ≤ m) (h2 : l ≤ n) (h3 : n ≤ m) : bro n l m = n := by unfold bro; rw [if_neg (by omega), if_neg (by omega)]

theorem spec_any (n l m : Int) (w : World) :
    Calls Try.prog 16 #[.int .i64 n, .int .i64 l, .int .i64 m] w fun e w' => e = .returned (.int .i64 (bro n l m)) ∧ w = w' := by
  by_cases h1 : m < l
  · go_enter Try.func16, Try.ntmps16
    go_wp2
    go_ret
    exact ⟨ret_int (bro_low (.inl h1)).symm, rfl⟩
  · by_cases h2 : n < l
    · go_enter Try.func16, Try.ntmps16
      go_wp2
      go_ret
      exact ⟨ret_int (bro_low (.inr h2)).symm, rfl⟩
    · by_cases h3 : m < n
      · go_enter Try.func16, Try.ntmps16
        go_wp2
        go_ret
        exact ⟨ret_int (bro_top (by omega) (by omega) (by omega)).symm, rfl⟩
      · go_enter Try.func16, Try.ntmps16
        go_wp2
        go_ret
        exact ⟨ret_int (bro_mid (by omega) (by omega) (by omega)).symm, rfl⟩

theorem bro_if (n l m : Int) : (if l < (if m < n then m else n) then (if m < n then m else n) else l) = bro n l m := by
  unfold bro
  repeat' split
  all_goals omega

theorem impl_any (n l m : Int) (w : World) :
    Calls Try.prog 17 #[.int .i64 n, .int .i64 l, .int .i64 m] w fun e w' => e = .returned (.int .i64 (bro n l m)) ∧ w = w' := by
  have hb := bro_if n l m
  go_enter Try.func17, Try.ntmps17
  go_wp2
  all_goals go_ret
  all_goals exact ⟨rfl, rfl⟩

theorem walk (a0 : Int) (a1 : Int) (a2 : Int) (w : World) (w0 : (Lit.int .i64 a0).wf = true) (w1 : (Lit.int .i64 a1).wf = true) (w2 : (Lit.int .i64 a2).wf = true) :
    Calls Try.prog 6 #[.int .i64 a0, .int .i64 a1, .int .i64 a2] w fun e w' => e = .returned (.bool true) ∧ Below w.heap.size w w' := by
  go_enter Try.func6, Try.ntmps6
  go_wp2_with (first | (go_at_call 16; refine (spec_any _ _ _ _).mono ?_; rintro e w' ⟨rfl, rfl⟩) | (go_at_call 17; refine (impl_any _ _ _ _).mono ?_; rintro e w' ⟨rfl, rfl⟩))
  go_ret
  exact ⟨rfl, Below.refl _ _⟩
end Go.Proofs.Ytecbgflakidegaa.fnExactBrought
