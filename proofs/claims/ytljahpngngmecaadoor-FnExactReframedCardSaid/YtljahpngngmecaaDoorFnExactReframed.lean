/- FnExactReframed: the law returns true at every argument, in a world whose sentinels are what the program's text lays. -/
import Derived.Test.YtljahpngngmecaaDoorFrReS
import Derived.Test.YtljahpngngmecaaDoorFrReI
namespace Go.Proofs.YtljahpngngmecaaDoor.fnExactReframed
open Go.ChangeShapes Go.WideShapes Go.ChangeAt Go.RowKit
open frame
set_option linter.unusedVariables false

theorem walk (s : ByteArray) (v : Int) (W : World) (hs : s.size ≤ maxLen) (hv : (Lit.int .i64 v).wf = true) (hS : Sent W) :
    Calls Tryd.prog 7 #[.string s, .int .i64 v] W fun e w' => e = .returned (.bool true) ∧ Below W.heap.size W w' := by
  have ms := hs
  unfold maxLen at ms
  by_cases ls : 1048576 < s.size
  · go_enter Tryd.func7, Tryd.ntmps7
    go_wp2_with fail
    go_ret
    exact ⟨rfl, Below.refl _ _⟩
  obtain ⟨a, hA⟩ := Sent.at_ hS
  have HS := Lib.hid (frame.spec_reframed s v W hs)
  have HI := Lib.hid (fun w' (h : Below W.heap.size W w') => frame.impl_reframed s v w' a (hA.below h) hs)
  clear hA hS
  generalize reF s v = R at HS HI
  go_enter Tryd.func7, Tryd.ntmps7
  go_wp2_with fail
  refine HS.out.mono ?_
  rintro e w1 ⟨rfl, hb1⟩
  go_wp2_with fail
  refine (HI.out _ hb1).mono ?_
  rintro e w2 ⟨rfl, hb2⟩
  go_wp2_with fail
  go_ret
  exact ⟨rfl, hb1.trans (hb2.mono hb1.size)⟩
end Go.Proofs.YtljahpngngmecaaDoor.fnExactReframed
