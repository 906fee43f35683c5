/- Merged: InTaintI InToleranceI. -/
import Derived.Test.YtpadpiibiocabaaGreatDoorRows
import Derived.ProofKit
import Derived.Deep.WholeRow
import Derived.Test.YtpadpiibiocabaaGreatDoorGFl
namespace Go.Proofs.YtpadpiibiocabaaGreatDoor.taint
open Go Go.RowKit
theorem TryzinfITaint : (Tryz.prog.info? 33).map (fun i => (i.zero, i.size, i.bytes)) = some (some (.agg #[.string ⟨#[]⟩, .string ⟨#[]⟩, .int .i64 0]), 3, 40) := by kernel_rfl
end Go.Proofs.YtpadpiibiocabaaGreatDoor.taint
namespace Go.Proofs.YtpadpiibiocabaaGreatDoor.taint
open Go Go.RowKit
theorem TryzinfITolerance : (Tryz.prog.info? 35).map (fun i => (i.zero, i.size, i.bytes)) = some (some (.agg #[.string ⟨#[]⟩, .bool false, .string ⟨#[]⟩, .int .i64 0]), 4, 48) := by kernel_rfl
end Go.Proofs.YtpadpiibiocabaaGreatDoor.taint
