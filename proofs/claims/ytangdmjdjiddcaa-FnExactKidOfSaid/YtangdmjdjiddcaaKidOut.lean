/- A tree and a truth handed back. -/
import Derived.Test.YtangdmjdjiddcaaTrCopyS
import Derived.Test.YtangdmjdjiddcaaKidRet
namespace Go.Proofs.Ytangdmjdjiddcaa.tree
open Go.ChangeShapes Go.WideShapes Go.ChangeAt Go.RowKit
set_option linter.unusedVariables false

/-- What KidOf hands back. -/
def KidOut (B f : Nat) (r : T × Bool) (e : Ending) (w' : World) : Prop := ∃ us F, e = .returned (.tuple #[.agg us.toArray, .bool r.2]) ∧ OwnS w' B f us (row r.1) F ∧ F.Nodup
end Go.Proofs.Ytangdmjdjiddcaa.tree
