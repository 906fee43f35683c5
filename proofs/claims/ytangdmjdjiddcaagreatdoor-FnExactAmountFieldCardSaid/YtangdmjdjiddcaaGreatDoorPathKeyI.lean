/- impl.PathKey. -/
import Derived.Test.YtangdmjdjiddcaaGreatDoorGA5
namespace Go.Proofs.YtangdmjdjiddcaaGreatDoor.field
open Go.ChangeShapes Go.WideShapes Go.ChangeAt Go.RowKit
set_option linter.unusedVariables false

theorem impl_key (p k : ByteArray) (w : World) (hp : p.size ≤ 1048576) (hk : k.size ≤ 1048576) :
    Calls Tryz.prog 15 #[.string p, .string k] w fun e w' => e = .returned (.string (pathKey p k)) ∧ w = w' := by
  by_cases h : p.size = 0
  · have he : (p.toList == []) = true := nil_yes h
    rw [key_none k h]
    clear h hp hk
    go_enter Tryz.func15, Tryz.ntmps15
    go_wp2_with fail
    go_ret
    exact ⟨rfl, rfl⟩
  have he : (p.toList == []) = false := nil_no h
  have h1 : ¬ 9223372036854775807 < p.size + 1 := by omega
  have h2 : ¬ 9223372036854775807 < p.size + 1 + k.size := by omega
  rw [key_some k h]
  clear h hp hk
  go_enter Tryz.func15, Tryz.ntmps15
  go_wp2_with fail
  go_ret
  exact ⟨rfl, rfl⟩
end Go.Proofs.YtangdmjdjiddcaaGreatDoor.field
