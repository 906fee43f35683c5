/- FnExactUnitOf: for every string the law returns true. -/
import Derived.Test.YtpimbibmjoeliaaUnitI
import Derived.Test.YtpimbibmjoeliaaUnitS
namespace Go.Proofs.Ytpimbibmjoeliaa.fnExactUnitOf
open Go.ChangeShapes Go.WideShapes Go.ChangeAt Go.RowKit
set_option linter.unusedVariables false

theorem walk (s : ByteArray) (W : World) (hs : s.size ≤ maxLen) :
    Calls Try.prog 4 #[.string s] W fun e w' => e = .returned (.bool true) ∧ Below W.heap.size W w' := by
  have hm := hs
  unfold maxLen at hm
  by_cases h1 : 1048576 < s.size
  · go_enter Try.func4, Try.ntmps4
    go_wp2_with fail
    go_ret
    exact ⟨rfl, Below.refl _ _⟩
  have HS := Lib.hid (fun w => unit.spec_any s w hs)
  have HI := Lib.hid (fun w => unit.impl_any s w hs)
  unfold arith.two at HS HI
  generalize unit.unitF s = o at HS HI
  go_enter Try.func4, Try.ntmps4
  go_wp2_with fail
  refine (HS.out _).mono ?_
  rintro e w1 ⟨rfl, hb1⟩
  go_wp2_with fail
  refine (HI.out _).mono ?_
  rintro e w2 ⟨rfl, hb2⟩
  go_wp2_with fail
  go_ret
  exact ⟨rfl, hb1.trans (hb2.mono hb1.size)⟩
end Go.Proofs.Ytpimbibmjoeliaa.fnExactUnitOf
