/- Label's cells, as the program tells them. -/
import Derived.Test.YtdgedclpaplgoaaDoorRows
import Derived.ProofKit
import Derived.Deep.WholeRow
namespace Go.Proofs.YtdgedclpaplgoaaDoor.lab
open Go Go.RowKit
theorem TrydinfoLab : (Tryd.prog.info? 35).map (fun i => (i.zero, i.size, i.bytes)) = some (some (.agg #[.string ⟨#[]⟩, .string ⟨#[]⟩]), 2, 32) := by kernel_rfl
end Go.Proofs.YtdgedclpaplgoaaDoor.lab
