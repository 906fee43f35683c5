/- Whether two texts tell the same value: plain. -/
import Derived.Test.YtegpcjkcejijpaaGreatDoorGLeaf
import Derived.Test.YtegpcjkcejijpaaGreatDoorTrSameS
namespace Go.Proofs.YtegpcjkcejijpaaGreatDoor.line
open Go.ChangeShapes Go.WideShapes Go.ChangeAt Go.RowKit tree
set_option linter.unusedVariables false

noncomputable def sameF (a b : ByteArray) : Bool := (scalarF a).isSome && ((scalarF b).isSome && same (outT (scalarF a)) (outT (scalarF b)))
end Go.Proofs.YtegpcjkcejijpaaGreatDoor.line
