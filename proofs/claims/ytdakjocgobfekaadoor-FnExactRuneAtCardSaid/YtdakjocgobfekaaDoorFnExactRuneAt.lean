/- FnExactRuneAt: the law returns true at every argument. -/
import Derived.Test.YtdakjocgobfekaaDoorRnAtI
import Derived.Test.YtdakjocgobfekaaDoorRnAtS
namespace Go.Proofs.YtdakjocgobfekaaDoor.fnExactRuneAt
open Go.ChangeShapes Go.WideShapes Go.ChangeAt Go.RowKit
set_option linter.unusedVariables false

theorem walk (s : ByteArray) (a : Int) (W : World) (hs : s.size ≤ maxLen) (ha : (Lit.int .i64 a).wf = true) (hT : rune.Tabs W) :
    Calls Tryd.prog 5 #[.string s, .int .i64 a] W fun e w' => e = .returned (.bool true) ∧ Below W.heap.size W w' := by
  have ba := i64_bd ha
  have ms := hs
  unfold maxLen at ms
  by_cases ls : 1048576 < s.size
  · go_enter Tryd.func5, Tryd.ntmps5
    go_wp2_with fail
    go_ret
    exact ⟨rfl, Below.refl _ _⟩
  have hs8 : s.size + 8 ≤ maxLen := by unfold maxLen; omega
  have HT := Lib.hid hT
  clear hT
  have HS := Lib.hid (fun W => rune.spec_at s a W hs8)
  have HI := Lib.hid (fun W h => rune.impl_at s a W hs h)
  unfold rune.AtRes at HS
  generalize (rune.atF s a).1 = x at HS HI
  generalize (rune.atF s a).2 = y at HS HI
  go_enter Tryd.func5, Tryd.ntmps5
  go_wp2_with fail
  refine (HS.out _).mono ?_
  rintro e w1 ⟨rfl, hb1⟩
  go_wp2_with fail
  refine (HI.out _ (HT.out.below hb1)).mono ?_
  rintro e w2 ⟨rfl, hb2⟩
  go_wp2_with fail
  go_ret
  exact ⟨rfl, hb1.trans (hb2.mono hb1.size)⟩
end Go.Proofs.YtdakjocgobfekaaDoor.fnExactRuneAt
