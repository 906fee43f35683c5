/- FnExactCompareAmounts: the law returns true at every argument. -/
import Derived.Test.YtiibldfkefihlaaDoorOrdI
import Derived.Test.YtiibldfkefihlaaDoorOrdS
namespace Go.Proofs.YtiibldfkefihlaaDoor.fnExactCompareAmounts
open Go.ChangeShapes Go.WideShapes Go.ChangeAt Go.RowKit
set_option linter.unusedVariables false

theorem walk (s : ByteArray) (t : ByteArray) (W : World) (hs : s.size ≤ maxLen) (ht : t.size ≤ maxLen) (hP : decimal.Pow W) (hR : readnum.ErrVar W "strconv.ErrRange") (hE : readnum.ErrVar W "strconv.ErrSyntax") :
    Calls Tryd.prog 8 #[.string s, .string t] W fun e w' => e = .returned (.bool true) ∧ Below W.heap.size W w' := by
  have ms := hs
  unfold maxLen at ms
  have mt := ht
  unfold maxLen at mt
  by_cases ls : 1048576 < s.size
  · clear hE hR hP
    go_enter Tryd.func8, Tryd.ntmps8
    go_wp2_with fail
    go_ret
    exact ⟨rfl, Below.refl _ _⟩
  by_cases lt : 1048576 < t.size
  · clear hE hR hP
    go_enter Tryd.func8, Tryd.ntmps8
    go_wp2_with fail
    go_ret
    exact ⟨rfl, Below.refl _ _⟩
  have HS := Lib.hid (fun w => amount.spec_ord s t w hs ht)
  have HI := Lib.hid (fun w1 (hb : Below W.heap.size W w1) => amount.impl_ord s t w1 hs ht (hE.below hb) (hR.below hb) (hP.below hb))
  clear hE hR hP
  generalize (amount.ordF s t).1 = x at HS HI
  generalize (amount.ordF s t).2 = c at HS HI
  go_enter Tryd.func8, Tryd.ntmps8
  go_wp2_with fail
  refine (HS.out _).mono ?_
  rintro e w1 ⟨rfl, hb1⟩
  go_wp2_with fail
  refine (HI.out _ hb1).mono ?_
  rintro e w2 ⟨rfl, hb2⟩
  go_wp2_with fail
  go_ret
  exact ⟨rfl, hb1.trans (hb2.mono hb1.size)⟩
end Go.Proofs.YtiibldfkefihlaaDoor.fnExactCompareAmounts
