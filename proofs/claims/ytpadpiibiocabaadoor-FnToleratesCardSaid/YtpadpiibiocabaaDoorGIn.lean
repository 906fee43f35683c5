/- Merged: InTaintI InToleranceI. -/
import Derived.Test.YtpadpiibiocabaaDoorRows
import Derived.ProofKit
import Derived.Deep.WholeRow
import Derived.Test.YtpadpiibiocabaaDoorGFl
namespace Go.Proofs.YtpadpiibiocabaaDoor.taint
open Go Go.RowKit
theorem TrydinfITaint : (Tryd.prog.info? 32).map (fun i => (i.zero, i.size, i.bytes)) = some (some (.agg #[.string ⟨#[]⟩, .string ⟨#[]⟩, .int .i64 0]), 3, 40) := by kernel_rfl
end Go.Proofs.YtpadpiibiocabaaDoor.taint
namespace Go.Proofs.YtpadpiibiocabaaDoor.taint
open Go Go.RowKit
theorem TrydinfITolerance : (Tryd.prog.info? 30).map (fun i => (i.zero, i.size, i.bytes)) = some (some (.agg #[.string ⟨#[]⟩, .bool false, .string ⟨#[]⟩, .int .i64 0]), 4, 48) := by kernel_rfl
end Go.Proofs.YtpadpiibiocabaaDoor.taint
