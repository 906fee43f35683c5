/- FnExactVersionIn: the law returns true at every argument, in a world whose sentinels are what the program's text lays. -/
import Derived.Test.YtljahpngngmecaaDoorFrVersionS
import Derived.Test.YtljahpngngmecaaDoorFrVersionI
namespace Go.Proofs.YtljahpngngmecaaDoor.fnExactVersionIn
open Go.ChangeShapes Go.WideShapes Go.ChangeAt Go.RowKit
open frame
set_option linter.unusedVariables false

theorem walk (s : ByteArray) (W : World) (hs : s.size ≤ maxLen) (hS : Sent W) :
    Calls Tryd.prog 6 #[.string s] W fun e w' => e = .returned (.bool true) ∧ Below W.heap.size W w' := by
  have ms := hs
  unfold maxLen at ms
  by_cases ls : 1048576 < s.size
  · go_enter Tryd.func6, Tryd.ntmps6
    go_wp2_with fail
    go_ret
    exact ⟨rfl, Below.refl _ _⟩
  obtain ⟨a, hA⟩ := Sent.at_ hS
  have HS := Lib.hid (frame.spec_version s W hs)
  have HI := Lib.hid (fun w' (h : Below W.heap.size W w') => frame.impl_version s w' a (hA.below h) hs)
  clear hA hS
  generalize (readF s).1.1 = x at HS HI
  generalize (readF s).2 = y at HS HI
  go_enter Tryd.func6, Tryd.ntmps6
  go_wp2_with fail
  refine HS.out.mono ?_
  rintro e w1 ⟨rfl, hb1⟩
  go_wp2_with fail
  refine (HI.out _ hb1).mono ?_
  rintro e w2 ⟨rfl, hb2⟩
  go_wp2_with fail
  go_ret
  exact ⟨rfl, hb1.trans (hb2.mono hb1.size)⟩
end Go.Proofs.YtljahpngngmecaaDoor.fnExactVersionIn
