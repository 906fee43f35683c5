/- FnExactScalarSame: the law returns true at every argument. -/
import Derived.Test.YtegpcjkcejijpaaGreatDoorSsS
import Derived.Test.YtegpcjkcejijpaaGreatDoorSsI
namespace Go.Proofs.YtegpcjkcejijpaaGreatDoor.fnExactScalarSame
open Go.ChangeShapes Go.WideShapes Go.ChangeAt Go.RowKit
set_option linter.unusedVariables false

theorem walk (a b : ByteArray) (W : World) (ha : a.size ≤ maxLen) (hb : b.size ≤ maxLen) (hT : rune.Tabs W) (hE : readq.ErrVar W "strconv.ErrSyntax") (hR : whole.ErrVar W "strconv.ErrRange") (hM : line.MaxL W) :
    Calls Tryz.prog 8 #[.string a, .string b] W fun e w' => e = .returned (.bool true) ∧ Below W.heap.size W w' := by
  have ma := ha
  have mb := hb
  unfold maxLen at ma mb
  by_cases ls : 1048576 < a.size
  · clear hT hE hR hM
    go_enter Tryz.func8, Tryz.ntmps8
    go_wp2_with fail
    go_ret
    exact ⟨rfl, Below.refl _ _⟩
  by_cases ls2 : 1048576 < b.size
  · clear hT hE hR hM
    go_enter Tryz.func8, Tryz.ntmps8
    go_wp2_with fail
    go_ret
    exact ⟨rfl, Below.refl _ _⟩
  have HS := Lib.hid (fun w => line.spec_ss a b w (by omega) (by omega))
  have HI := Lib.hid (fun w1 (hb : Below W.heap.size W w1) => line.impl_ss a b w1 (by omega) (by omega) (hT.below hb) (hE.below hb) (hR.below hb) (hM.below hb))
  clear hT hE hR hM
  generalize line.sameF a b = x at HS HI
  go_enter Tryz.func8, Tryz.ntmps8
  go_wp2_with fail
  refine (HS.out _).mono ?_
  rintro e w1 ⟨rfl, hb1⟩
  go_wp2_with fail
  refine (HI.out _ hb1).mono ?_
  rintro e w2 ⟨rfl, hb2⟩
  go_wp2_with fail
  go_ret
  exact ⟨rfl, hb1.trans (hb2.mono hb1.size)⟩
end Go.Proofs.YtegpcjkcejijpaaGreatDoor.fnExactScalarSame
