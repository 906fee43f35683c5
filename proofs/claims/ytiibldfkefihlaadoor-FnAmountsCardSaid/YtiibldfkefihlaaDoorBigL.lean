/- laws.big: longer than 2^20 bytes? -/
import Derived.Test.YtiibldfkefihlaaDoorRows
import Derived.Test.YtiibldfkefihlaaDoorBase
import Derived.ProofKit
import Derived.OpenShut
namespace Go.Proofs.YtiibldfkefihlaaDoor
open Go Go.RowKit
theorem IsRow.below {k : IntKind} {w w' : World} {a : Option Addr} {len cap : Nat} {zs : List Int} (h : IsRow k w a len cap zs) (hb : Below w.heap.size w w') : IsRow k w' a len cap zs := by
  rcases h with h | ⟨x, rfl, h1, h2, h3, h4, h5⟩
  · exact .inl h
  · exact .inr ⟨x, rfl, h1, h2, h3, fun i hi => (hb.cell (p := x.add i) (World.block_lt_of_cell? w _ (h4 i hi))).trans (h4 i hi), h5⟩
end Go.Proofs.YtiibldfkefihlaaDoor
namespace Go.Proofs.YtiibldfkefihlaaDoor.lawBig
open Go.ChangeShapes Go.WideShapes Go.ChangeAt Go.RowKit
set_option linter.unusedVariables false

theorem any (A : Option Addr) (len cap : Nat) (w : World) (h : len ≤ maxLen) :
    Calls Tryd.prog 9 #[.slice A len cap] w fun e w' => e = .returned (.bool (decide (1048576 < (len : Int)))) ∧ w = w' := by
  unfold maxLen at h
  go_enter Tryd.func9, Tryd.ntmps9
  go_wp2_with fail
  go_ret
  exact ⟨rfl, rfl⟩
end Go.Proofs.YtiibldfkefihlaaDoor.lawBig
