/- spec.PathPlace. -/
import Derived.Test.YtangdmjdjiddcaaDoorGA1
import Derived.Test.YtangdmjdjiddcaaDoorGA2
import Derived.Lib.ItoaLen
namespace Go.Proofs.YtangdmjdjiddcaaDoor.field
open Go.ChangeShapes Go.WideShapes Go.ChangeAt Go.RowKit
set_option linter.unusedVariables false

theorem spec_place (p : ByteArray) (i : Int) (w : World) (hp : p.size ≤ 1048576) (h0 : -9223372036854775808 ≤ i) (h1 : i ≤ 9223372036854775807) :
    Calls Tryd.prog 9 #[.string p, .int .i64 i] w fun e w' => e = .returned (.string (pathPlace p i)) ∧ Below w.heap.size w w' := by
  have HI := Lib.hid (fun w1 => decimal.spec_any i w1 h0 h1)
  have hl := Lib.itoa_length_le i h0 h1
  have k1 : ¬ 9223372036854775807 < p.size + 1 := by omega
  have k2 : ¬ 9223372036854775807 < p.size + 1 + (Lib.itoa i).length := by omega
  have k3 : ¬ 9223372036854775807 < p.size + 1 + (Lib.itoa i).length + 1 := by omega
  clear hl hp h0 h1
  unfold pathPlace
  go_enter Tryd.func9, Tryd.ntmps9
  go_wp2_with fail
  refine (HI.out _).mono ?_
  rintro e w1 ⟨rfl, hb⟩
  go_wp2_with fail
  go_ret
  exact ⟨rfl, hb⟩
end Go.Proofs.YtangdmjdjiddcaaDoor.field
