/- FnExactReadWhole: the law returns true at every argument. -/
import Derived.Test.YtamlkieeiflgkaaDoorWholeI
import Derived.Test.YtamlkieeiflgkaaDoorWholeS
namespace Go.Proofs.YtamlkieeiflgkaaDoor.fnExactReadWhole
open Go.ChangeShapes Go.WideShapes Go.ChangeAt Go.RowKit
set_option linter.unusedVariables false

theorem walk (s : ByteArray) (a : Int) (W : World) (hs : s.size ≤ maxLen) (ha : (Lit.int .i64 a).wf = true) (hR : whole.ErrVar W "strconv.ErrRange") :
    Calls Tryd.prog 5 #[.string s, .int .i64 a] W fun e w' => e = .returned (.bool true) ∧ Below W.heap.size W w' := by
  have ba := i64_bd ha
  have ms := hs
  unfold maxLen at ms
  by_cases ls : 1048576 < s.size
  · clear hR
    go_enter Tryd.func5, Tryd.ntmps5
    go_wp2_with fail
    go_ret
    exact ⟨rfl, Below.refl _ _⟩
  have hs9 : s.size ≤ 1048576 := by omega
  have HR := Lib.hid hR
  clear hR
  have HS := Lib.hid (fun W => whole.spec_whole s a W hs9 ba.1 ba.2)
  have HI := Lib.hid (fun W h => whole.impl_whole s a W hs9 h)
  generalize (whole.wholeF s a).1 = x at HS HI
  generalize (whole.wholeF s a).2 = y at HS HI
  go_enter Tryd.func5, Tryd.ntmps5
  go_wp2_with fail
  refine (HS.out _).mono ?_
  rintro e w1 ⟨rfl, hb1⟩
  go_wp2_with fail
  refine (HI.out _ (HR.out.below hb1)).mono ?_
  rintro e w2 ⟨rfl, hb2⟩
  go_wp2_with fail
  go_ret
  exact ⟨rfl, hb1.trans (hb2.mono hb1.size)⟩
end Go.Proofs.YtamlkieeiflgkaaDoor.fnExactReadWhole
