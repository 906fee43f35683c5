/- FnExactIntText: for every int the law returns true, where the table of powers of ten holds what its text lays. -/
import Derived.Test.YtmknkpoihnpnkaaDoorIntTextI
import Derived.Test.YtmknkpoihnpnkaaDoorIntTextS
namespace Go.Proofs.YtmknkpoihnpnkaaDoor.fnExactIntText
open Go.ChangeShapes Go.WideShapes Go.ChangeAt Go.RowKit
set_option linter.unusedVariables false

theorem int_bd {n : Int} (h : (Lit.int .i64 n).wf = true) : -9223372036854775808 ≤ n ∧ n ≤ 9223372036854775807 := by
  have e1 : IntKind.i64.min = -9223372036854775808 := rfl
  have e2 : IntKind.i64.max = 9223372036854775807 := rfl
  simp [Lit.wf, e1, e2] at h
  exact h

theorem walk (n : Int) (W : World) (wn : (Lit.int .i64 n).wf = true) (ht : decimal.Pow W) :
    Calls Tryd.prog 4 #[.int .i64 n] W fun e w' => e = .returned (.bool true) ∧ Below W.heap.size W w' := by
  obtain ⟨h0, h1⟩ := int_bd wn
  have HS := Lib.hid (inttext.spec_any n W h0 h1)
  have HI := Lib.hid (fun w1 (hb : decimal.Pow w1) => inttext.impl_any n w1 h0 h1 hb)
  go_enter Tryd.func4, Tryd.ntmps4
  go_wp2_with fail
  refine HS.out.mono ?_
  rintro e w1 ⟨rfl, hb1⟩
  go_wp2_with fail
  refine (HI.out _ (ht.below hb1)).mono ?_
  rintro e w2 ⟨rfl, hb2⟩
  go_wp2_with fail
  go_ret
  exact ⟨rfl, hb1.trans (hb2.mono hb1.size)⟩
end Go.Proofs.YtmknkpoihnpnkaaDoor.fnExactIntText
