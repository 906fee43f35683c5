/- FnExactNormalAmount: the law returns true at every argument. -/
import Derived.Test.YtiibldfkefihlaaDoorNormI
import Derived.Test.YtiibldfkefihlaaDoorNormS
namespace Go.Proofs.YtiibldfkefihlaaDoor.fnExactNormalAmount
open Go.ChangeShapes Go.WideShapes Go.ChangeAt Go.RowKit
set_option linter.unusedVariables false

theorem walk (s : ByteArray) (W : World) (hs : s.size ≤ maxLen) (hP : decimal.Pow W) (hR : readnum.ErrVar W "strconv.ErrRange") (hE : readnum.ErrVar W "strconv.ErrSyntax") :
    Calls Tryd.prog 7 #[.string s] W fun e w' => e = .returned (.bool true) ∧ Below W.heap.size W w' := by
  have ms := hs
  unfold maxLen at ms
  by_cases ls : 1048576 < s.size
  · clear hE hR hP
    go_enter Tryd.func7, Tryd.ntmps7
    go_wp2_with fail
    go_ret
    exact ⟨rfl, Below.refl _ _⟩
  have HS := Lib.hid (fun w => amount.spec_norm s w hs)
  have HI := Lib.hid (fun w1 (hb : Below W.heap.size W w1) => amount.impl_norm s w1 hs (hE.below hb) (hR.below hb) (hP.below hb))
  clear hE hR hP
  generalize (amount.normF s).1 = x at HS HI
  generalize (amount.normF s).2 = c at HS HI
  go_enter Tryd.func7, Tryd.ntmps7
  go_wp2_with fail
  refine (HS.out _).mono ?_
  rintro e w1 ⟨rfl, hb1⟩
  go_wp2_with fail
  refine (HI.out _ hb1).mono ?_
  rintro e w2 ⟨rfl, hb2⟩
  go_wp2_with fail
  go_ret
  exact ⟨rfl, hb1.trans (hb2.mono hb1.size)⟩
end Go.Proofs.YtiibldfkefihlaaDoor.fnExactNormalAmount
