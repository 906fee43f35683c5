/- laws.szLabel. Printed by gen/gen_ty.py. -/
import Derived.Test.YthpgbmglgmjjhaaDoorTyLabel
import Derived.Test.YthpgbmglgmjjhaaDoorRows
import Derived.ProofKit
import Derived.OpenShut
namespace Go.Proofs.YthpgbmglgmjjhaaDoor.ty
open Go.ChangeShapes Go.WideShapes Go.ChangeAt Go.RowKit
set_option linter.unusedVariables false

theorem szLabel (x : Label) (left : Int) (w : World) (hx : x.Wf) (hl : LeftN left) :
    Calls Tryd.prog 39 #[.agg #[.string x.key, .string x.value], .int .i64 left] w fun e w' => e = .returned (.int .i64 (cutN left x.wt)) ∧ Below w.heap.size w w' := by
  obtain ⟨a0, a1⟩ := x
  obtain ⟨w0, w1⟩ := hx
  simp only at *
  unfold maxLen at w0 w1
  unfold LeftN at hl
  rw [show Label.wt ⟨a0, a1⟩ = a0.size + a1.size from rfl]
  have Hb := Lib.hid ((Below.refl w.heap.size w).alloc (Nat.le_refl _) (.cells #[.string a0, .string a1] 57))
  by_cases h0 : left < (a0.size : Int)
  · have He := Lib.hid (cutN_no (show left < ((a0.size + a1.size : Nat) : Int) by omega))
    go_enter Tryd.func39, Tryd.ntmps39
    go_wp2_with fail
    go_ret
    exact ⟨by rw [He.out]; rfl, Hb.out⟩
  by_cases h1 : left - a0.size < (a1.size : Int)
  · have He := Lib.hid (cutN_no (show left < ((a0.size + a1.size : Nat) : Int) by omega))
    go_enter Tryd.func39, Tryd.ntmps39
    go_wp2_with fail
    go_ret
    exact ⟨by rw [He.out]; rfl, Hb.out⟩
  have He := Lib.hid (cutN_yes (show ¬ left < ((a0.size + a1.size : Nat) : Int) by omega))
  have He2 := Lib.hid (show left - ((a0.size + a1.size : Nat) : Int) = left - a0.size - a1.size by omega)
  go_enter Tryd.func39, Tryd.ntmps39
  go_wp2_with fail
  go_ret
  exact ⟨by rw [He.out, He2.out]; rfl, Hb.out⟩
end Go.Proofs.YthpgbmglgmjjhaaDoor.ty
