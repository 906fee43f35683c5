/- FnExactPathKey: the law returns true at every argument. Printed by gen/gen_fieldlaw.py. -/
import Derived.Test.YtangdmjdjiddcaaGA1
namespace Go.Proofs.Ytangdmjdjiddcaa.fnExactPathKey
open Go.ChangeShapes Go.WideShapes Go.ChangeAt Go.RowKit
open field
set_option linter.unusedVariables false

theorem walk (p k : ByteArray) (W : World) (hp : p.size ≤ maxLen) (hk : k.size ≤ maxLen) :
    Calls Try.prog 3 #[.string p, .string k] W fun e w' => e = .returned (.bool true) ∧ Below W.heap.size W w' := by
  unfold maxLen at hp hk
  by_cases hp1 : 1048576 < p.size
  · go_enter Try.func3, Try.ntmps3
    go_wp2_with fail
    go_ret
    exact ⟨rfl, Below.refl _ _⟩
  have hp2 : p.size ≤ 1048576 := by omega
  by_cases hk1 : 1048576 < k.size
  · go_enter Try.func3, Try.ntmps3
    go_wp2_with fail
    go_ret
    exact ⟨rfl, Below.refl _ _⟩
  have hk2 : k.size ≤ 1048576 := by omega
  have HS := Lib.hid (fun w => spec_key p k w hp2 hk2)
  have HI := Lib.hid (fun w => impl_key p k w hp2 hk2)
  generalize pathKey p k = q at HS HI
  have hq : (q.toList == q.toList) = true := by simp
  clear hp2 hk2
  go_enter Try.func3, Try.ntmps3
  go_wp2_with fail
  refine (HS.out _).mono ?_
  rintro e w1 ⟨rfl, hb1⟩
  go_wp2_with fail
  refine (HI.out _).mono ?_
  rintro e w2 ⟨rfl, hb2⟩
  go_wp2_with fail
  go_ret
  exact ⟨rfl, by subst hb1; subst hb2; exact Below.refl _ _⟩
end Go.Proofs.Ytangdmjdjiddcaa.fnExactPathKey
