/- impl.IndentOf. -/
import Derived.Test.YtnaeanhcmpmojaaDoorLineM
import Derived.Test.YtnaeanhcmpmojaaDoorShelf
namespace Go.Proofs.YtnaeanhcmpmojaaDoor.line
open Go.ChangeShapes Go.WideShapes Go.ChangeAt Go.RowKit
set_option linter.unusedVariables false

theorem impl_without (s : ByteArray) (w : World) :
    Calls Tryd.prog 35 #[.string s] w fun e w' => e = .returned (.string (trimL s)) ∧ w = w' := by
  have HT := Lib.hid (Tryd.strings_TrimLeft_one s 32 (by decide) w)
  rw [← trimL_is] at HT
  go_enter Tryd.func35, Tryd.ntmps35
  go_wp2_with fail
  refine HT.out.mono ?_
  rintro e w1 ⟨rfl, rfl⟩
  clear HT
  go_wp2_with fail
  go_ret
  exact ⟨rfl, rfl⟩
theorem impl_ind (s : ByteArray) (w : World) (hs : s.size ≤ maxLen) :
    Calls Tryd.prog 14 #[.string s] w fun e w' => e = .returned (.int .i64 (ind s)) ∧ w = w' := by
  unfold maxLen at hs
  have HT := Lib.hid (impl_without s w)
  have hz := trimL_size s
  have hl := ind_le s
  generalize trimL s = t at HT hz
  go_enter Tryd.func14, Tryd.ntmps14
  go_wp2_with fail
  refine HT.out.mono ?_
  rintro e w1 ⟨rfl, rfl⟩
  clear HT
  go_wp2_with fail
  go_ret
  refine ⟨?_, rfl⟩
  refine ret_int ?_
  omega
end Go.Proofs.YtnaeanhcmpmojaaDoor.line
