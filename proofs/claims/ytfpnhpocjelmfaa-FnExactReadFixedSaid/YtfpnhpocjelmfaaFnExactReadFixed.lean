/- FnExactReadFixed: the law returns true at every argument. -/
import Derived.Test.YtfpnhpocjelmfaaReadFixI
import Derived.Test.YtfpnhpocjelmfaaReadFixS
namespace Go.Proofs.Ytfpnhpocjelmfaa.fnExactReadFixed
open Go.ChangeShapes Go.WideShapes Go.ChangeAt Go.RowKit
set_option linter.unusedVariables false

theorem walk (s : ByteArray) (a : Int) (k : Int) (W : World) (hs : s.size ≤ maxLen) (ha : (Lit.int .i64 a).wf = true) (hk : (Lit.int .i64 k).wf = true) :
    Calls Try.prog 9 #[.string s, .int .i64 a, .int .i64 k] W fun e w' => e = .returned (.bool true) ∧ Below W.heap.size W w' := by
  have ba := i64_bd ha
  have bk := i64_bd hk
  have ms := hs
  unfold maxLen at ms
  by_cases ls : 1048576 < s.size
  · go_enter Try.func9, Try.ntmps9
    go_wp2_with fail
    go_ret
    exact ⟨rfl, Below.refl _ _⟩
  have HS := Lib.hid (fun W => fixed.spec_read s a k W hs)
  have HI := Lib.hid (fun W => fixed.impl_read s a k W hs)
  unfold arith.two at HS HI
  generalize arith.val (fixed.readF s a k) = x at HS HI
  generalize arith.has (fixed.readF s a k) = y at HS HI
  go_enter Try.func9, Try.ntmps9
  go_wp2_with fail
  refine (HS.out _).mono ?_
  rintro e w1 ⟨rfl, hb1⟩
  go_wp2_with fail
  refine (HI.out _).mono ?_
  rintro e w2 ⟨rfl, hb2⟩
  go_wp2_with fail
  go_ret
  exact ⟨rfl, hb1.trans (hb2.mono hb1.size)⟩
end Go.Proofs.Ytfpnhpocjelmfaa.fnExactReadFixed
