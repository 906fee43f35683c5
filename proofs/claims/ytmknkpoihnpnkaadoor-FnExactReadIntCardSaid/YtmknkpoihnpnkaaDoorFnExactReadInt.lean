/- FnExactReadInt: for every text the law returns true, where the library's table and sentinels hold what their texts lay. -/
import Derived.Test.YtmknkpoihnpnkaaDoorReadIntI
import Derived.Test.YtmknkpoihnpnkaaDoorReadIntS
namespace Go.Proofs.YtmknkpoihnpnkaaDoor.fnExactReadInt
open Go.ChangeShapes Go.WideShapes Go.ChangeAt Go.RowKit
set_option linter.unusedVariables false

theorem walk (s : ByteArray) (W : World) (hs : s.size ≤ maxLen) (hP : decimal.Pow W) (hR : readnum.ErrVar W "strconv.ErrRange") (hE : readnum.ErrVar W "strconv.ErrSyntax") :
    Calls Tryd.prog 5 #[.string s] W fun e w' => e = .returned (.bool true) ∧ Below W.heap.size W w' := by
  have hm := hs
  unfold maxLen at hm
  by_cases h1 : 1048576 < s.size
  · clear hP hE hR
    go_enter Tryd.func5, Tryd.ntmps5
    go_wp2_with fail
    go_ret
    exact ⟨rfl, Below.refl _ _⟩
  · have HS := Lib.hid (readnum.spec_int s W hs)
    have HI := Lib.hid (fun w1 hb => readnum.int_any s w1 (by omega) (hE.below hb) (hR.below hb) (hP.below hb))
    clear hP hE hR
    go_enter Tryd.func5, Tryd.ntmps5
    go_wp2_with fail
    refine HS.out.mono ?_
    rintro e w1 ⟨rfl, hb1⟩
    go_wp2_with fail
    refine (HI.out _ hb1).mono ?_
    rintro e w2 ⟨rfl, hb2⟩
    go_wp2_with fail
    go_ret
    exact ⟨rfl, hb1.trans (hb2.mono hb1.size)⟩
end Go.Proofs.YtmknkpoihnpnkaaDoor.fnExactReadInt
