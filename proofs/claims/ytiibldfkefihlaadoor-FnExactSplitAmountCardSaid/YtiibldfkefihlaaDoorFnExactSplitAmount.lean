/- FnExactSplitAmount: the law returns true at every argument. -/
import Derived.Test.YtiibldfkefihlaaDoorSplitI
import Derived.Test.YtiibldfkefihlaaDoorSplitS
namespace Go.Proofs.YtiibldfkefihlaaDoor.fnExactSplitAmount
open Go.ChangeShapes Go.WideShapes Go.ChangeAt Go.RowKit
set_option linter.unusedVariables false

theorem walk (s : ByteArray) (W : World) (hs : s.size ≤ maxLen) :
    Calls Tryd.prog 5 #[.string s] W fun e w' => e = .returned (.bool true) ∧ Below W.heap.size W w' := by
  have ms := hs
  unfold maxLen at ms
  by_cases ls : 1048576 < s.size
  · skip
    go_enter Tryd.func5, Tryd.ntmps5
    go_wp2_with fail
    go_ret
    exact ⟨rfl, Below.refl _ _⟩
  have HS := Lib.hid (fun w => split.spec_any s w hs)
  have HI := Lib.hid (fun w1 (hb : Below W.heap.size W w1) => split.impl_any s w1 hs)
  generalize split.fst s = f at HS HI
  generalize split.snd s = r at HS HI
  go_enter Tryd.func5, Tryd.ntmps5
  go_wp2_with fail
  refine (HS.out _).mono ?_
  rintro e w1 ⟨rfl, hb1⟩
  go_wp2_with fail
  refine (HI.out _ hb1).mono ?_
  rintro e w2 ⟨rfl, hb2⟩
  go_wp2_with fail
  go_ret
  exact ⟨rfl, hb1.trans (hb2.mono hb1.size)⟩
end Go.Proofs.YtiibldfkefihlaaDoor.fnExactSplitAmount
