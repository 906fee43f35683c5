/- spec.l01Figure: the byte of a hexadecimal digit. -/
import Derived.Test.YtiibldfkefihlaaDoorRows
import Derived.Test.YtiibldfkefihlaaDoorBase
import Derived.ProofKit
import Derived.OpenShut
namespace Go.Proofs.YtiibldfkefihlaaDoor.hex
open Go.ChangeShapes Go.WideShapes Go.ChangeAt Go.RowKit
set_option linter.unusedVariables false

/-- The byte of a hexadecimal digit. -/
def fig (n : Nat) : UInt8 := if n < 10 then UInt8.ofNat (48 + n) else UInt8.ofNat (87 + n)

theorem fig_lo (x : Int) (h0 : 0 ≤ x) (h : x < 10) : ((fig x.toNat).toNat : Int) = 48 + x := by
  unfold fig; rw [if_pos (by omega)]; simp; omega
theorem fig_hi (x : Int) (h0 : 10 ≤ x) (h : x < 16) : ((fig x.toNat).toNat : Int) = 97 + x - 10 := by
  unfold fig; rw [if_neg (by omega)]; simp; omega

theorem figure_any (x : Int) (w : World) (h0 : 0 ≤ x) (h1 : x < 16) :
    Calls Tryd.prog 54 #[.int .i64 x] w fun e w' => e = .returned (.int .u8 (fig x.toNat).toNat) ∧ w = w' := by
  by_cases h : x < 10
  · go_enter Tryd.func54, Tryd.ntmps54
    go_wp2
    go_ret
    exact ⟨ret_int (fig_lo x h0 h).symm, rfl⟩
  · have h' : 10 ≤ x := by omega
    go_enter Tryd.func54, Tryd.ntmps54
    go_wp2
    go_ret
    exact ⟨ret_int (by rw [fig_hi x h' h1]; try (simp; done)), rfl⟩

end Go.Proofs.YtiibldfkefihlaaDoor.hex
