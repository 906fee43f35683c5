/- FnExactReadShort: the law returns true at every argument. -/
import Derived.Test.YtfpnhpocjelmfaaShortI
import Derived.Test.YtfpnhpocjelmfaaShortS
namespace Go.Proofs.Ytfpnhpocjelmfaa.fnExactReadShort
open Go.ChangeShapes Go.WideShapes Go.ChangeAt Go.RowKit
set_option linter.unusedVariables false

theorem walk (s : ByteArray) (a : Int) (W : World) (hs : s.size ≤ maxLen) (ha : (Lit.int .i64 a).wf = true) :
    Calls Try.prog 11 #[.string s, .int .i64 a] W fun e w' => e = .returned (.bool true) ∧ Below W.heap.size W w' := by
  have ba := i64_bd ha
  have ms := hs
  unfold maxLen at ms
  by_cases ls : 1048576 < s.size
  · go_enter Try.func11, Try.ntmps11
    go_wp2_with fail
    go_ret
    exact ⟨rfl, Below.refl _ _⟩
  have HS := Lib.hid (fun W => short.spec_read s a W hs ba)
  have HI := Lib.hid (fun W => short.impl_read s a W hs ba)
  generalize (short.readS s a).1 = x at HS HI
  generalize (short.readS s a).2 = y at HS HI
  go_enter Try.func11, Try.ntmps11
  go_wp2_with fail
  refine (HS.out _).mono ?_
  rintro e w1 ⟨rfl, hb1⟩
  go_wp2_with fail
  refine (HI.out _).mono ?_
  rintro e w2 ⟨rfl, hb2⟩
  go_wp2_with fail
  go_ret
  exact ⟨rfl, hb1.trans (hb2.mono hb1.size)⟩
end Go.Proofs.Ytfpnhpocjelmfaa.fnExactReadShort
