/- FnExactPathPlace: the law returns true at every argument. Printed by gen/gen_fieldlaw.py. -/
import Derived.Test.YtangdmjdjiddcaaDoorPathPlaceS
import Derived.Test.YtangdmjdjiddcaaDoorPathPlaceI
namespace Go.Proofs.YtangdmjdjiddcaaDoor.fnExactPathPlace
open Go.ChangeShapes Go.WideShapes Go.ChangeAt Go.RowKit
open field
set_option linter.unusedVariables false

theorem int_bd {n : Int} (h : (Lit.int .i64 n).wf = true) : -9223372036854775808 ≤ n ∧ n ≤ 9223372036854775807 := by
  have e1 : IntKind.i64.min = -9223372036854775808 := rfl
  have e2 : IntKind.i64.max = 9223372036854775807 := rfl
  simp [Lit.wf, e1, e2] at h
  exact h
theorem walk (p : ByteArray) (i : Int) (W : World) (hp : p.size ≤ maxLen) (hwf : (Lit.int .i64 i).wf = true) (hPw : decimal.Pow W) :
    Calls Tryd.prog 3 #[.string p, .int .i64 i] W fun e w' => e = .returned (.bool true) ∧ Below W.heap.size W w' := by
  unfold maxLen at hp
  obtain ⟨h0, h1⟩ := int_bd hwf
  by_cases hp1 : 1048576 < p.size
  · go_enter Tryd.func3, Tryd.ntmps3
    go_wp2_with fail
    go_ret
    exact ⟨rfl, Below.refl _ _⟩
  have hp2 : p.size ≤ 1048576 := by omega
  have HS := Lib.hid (fun w => spec_place p i w hp2 h0 h1)
  have HI := Lib.hid (fun w (hPw : decimal.Pow w) => impl_place p i w hp2 h0 h1 hPw)
  generalize pathPlace p i = q at HS HI
  have hq : (q.toList == q.toList) = true := by simp
  have HPW := Lib.hid hPw
  clear hp2 hPw
  go_enter Tryd.func3, Tryd.ntmps3
  go_wp2_with fail
  refine (HS.out _).mono ?_
  rintro e w1 ⟨rfl, hb1⟩
  go_wp2_with fail
  refine (HI.out _ (HPW.out.below hb1)).mono ?_
  rintro e w2 ⟨rfl, hb2⟩
  go_wp2_with fail
  go_ret
  exact ⟨rfl, hb1.trans (hb2.mono hb1.size)⟩
end Go.Proofs.YtangdmjdjiddcaaDoor.fnExactPathPlace
