/- FnExactLabelValueOk: the law returns true at every argument. -/
import Derived.Test.YtjjffdhcapjhdaaDoorWdS
import Derived.Test.YtjjffdhcapjhdaaDoorIdI
import Derived.Test.YtjjffdhcapjhdaaDoorLawL
namespace Go.Proofs.YtjjffdhcapjhdaaDoor.fnExactLabelValueOk
open Go.ChangeShapes Go.WideShapes Go.ChangeAt Go.RowKit
set_option linter.unusedVariables false

theorem walk (s : ByteArray) (W : World) (hs : s.size ≤ maxLen) :
    Calls Tryd.prog 6 #[.string s] W fun e w' => e = .returned (.bool true) ∧ Below W.heap.size W w' := by
  have ms := hs
  unfold maxLen at ms
  by_cases ls : 1048576 < s.size
  · go_enter Tryd.func6, Tryd.ntmps6
    go_wp2_with fail
    go_ret
    exact ⟨rfl, Below.refl _ _⟩
  have HS := Lib.hid (fun W => drew_below (lab.spec_val s W (by omega)))
  have HI := Lib.hid (fun W => lab.impl_val s W (by omega))
  generalize lab.yes (lab.ValP s) = x at HS HI
  go_enter Tryd.func6, Tryd.ntmps6
  go_wp2_with fail
  refine (HS.out _).mono ?_
  rintro e w1 ⟨rfl, hb1⟩
  go_wp2_with fail
  refine (HI.out _).mono ?_
  rintro e w2 ⟨rfl, hb2⟩
  go_wp2_with fail
  go_ret
  exact ⟨rfl, hb1.trans (hb2.mono hb1.size)⟩
end Go.Proofs.YtjjffdhcapjhdaaDoor.fnExactLabelValueOk
