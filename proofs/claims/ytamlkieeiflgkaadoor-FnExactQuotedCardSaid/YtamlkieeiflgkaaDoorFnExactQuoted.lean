/- FnExactQuoted: the law returns true at every argument. -/
import Derived.Test.YtamlkieeiflgkaaDoorQuoteI
import Derived.Test.YtamlkieeiflgkaaDoorQuoteS
namespace Go.Proofs.YtamlkieeiflgkaaDoor.fnExactQuoted
open Go.ChangeShapes Go.WideShapes Go.ChangeAt Go.RowKit
set_option linter.unusedVariables false

theorem walk (s : ByteArray) (W : World) (hs : s.size ≤ maxLen) (hT : rune.Tabs W) :
    Calls Tryd.prog 3 #[.string s] W fun e w' => e = .returned (.bool true) ∧ Below W.heap.size W w' := by
  have ms := hs
  unfold maxLen at ms
  by_cases ls : 1048576 < s.size
  · go_enter Tryd.func3, Tryd.ntmps3
    go_wp2_with fail
    go_ret
    exact ⟨rfl, Below.refl _ _⟩
  have hs9 : s.size ≤ 1048576 := by omega
  have HT := Lib.hid hT
  clear hT
  have HS := Lib.hid (fun W => quote.spec_quoted s W hs9)
  have HI := Lib.hid (fun W h => quote.impl_quoted s W hs9 h)
  generalize quote.quotedF s = x at HS HI
  go_enter Tryd.func3, Tryd.ntmps3
  go_wp2_with fail
  refine (HS.out _).mono ?_
  rintro e w1 ⟨rfl, hb1⟩
  go_wp2_with fail
  refine (HI.out _ (HT.out.below hb1)).mono ?_
  rintro e w2 ⟨rfl, hb2⟩
  go_wp2_with fail
  go_ret
  exact ⟨rfl, hb1.trans (hb2.mono hb1.size)⟩
end Go.Proofs.YtamlkieeiflgkaaDoor.fnExactQuoted
