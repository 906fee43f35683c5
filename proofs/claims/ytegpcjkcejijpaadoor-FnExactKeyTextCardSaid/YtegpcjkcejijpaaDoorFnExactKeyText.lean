/- FnExactKeyText: the law returns true at every argument. -/
import Derived.Test.YtegpcjkcejijpaaDoorKtI
import Derived.Test.YtegpcjkcejijpaaDoorKtS
namespace Go.Proofs.YtegpcjkcejijpaaDoor.fnExactKeyText
open Go.ChangeShapes Go.WideShapes Go.ChangeAt Go.RowKit
set_option linter.unusedVariables false

theorem walk (s : ByteArray) (W : World) (hs : s.size ≤ maxLen) (hT : rune.Tabs W) (hM : line.MaxL W) :
    Calls Tryd.prog 3 #[.string s] W fun e w' => e = .returned (.bool true) ∧ Below W.heap.size W w' := by
  have ms := hs
  unfold maxLen at ms
  by_cases ls : 1048576 < s.size
  · clear hT hM
    go_enter Tryd.func3, Tryd.ntmps3
    go_wp2_with fail
    go_ret
    exact ⟨rfl, Below.refl _ _⟩
  have hs9 : s.size ≤ 1048576 := by omega
  have HS := Lib.hid (fun W => line.spec_kt s W hs9)
  have HI := Lib.hid (fun W1 (hb : Below W.heap.size W W1) => line.impl_kt s W1 hs9 (hT.below hb) (hM.below hb))
  clear hT hM
  generalize line.keyT s = x at HS HI
  go_enter Tryd.func3, Tryd.ntmps3
  go_wp2_with fail
  refine (HS.out _).mono ?_
  rintro e w1 ⟨rfl, hb1⟩
  go_wp2_with fail
  refine (HI.out _ hb1).mono ?_
  rintro e w2 ⟨rfl, hb2⟩
  go_wp2_with fail
  go_ret
  exact ⟨rfl, hb1.trans (hb2.mono hb1.size)⟩
end Go.Proofs.YtegpcjkcejijpaaDoor.fnExactKeyText
