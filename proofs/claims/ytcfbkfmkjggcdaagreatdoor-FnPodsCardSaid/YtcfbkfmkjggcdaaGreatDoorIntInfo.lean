/- The element of a slice of ints; what a cut text's numbers are. -/
import Derived.Test.YtcfbkfmkjggcdaaGreatDoorGA3
import Derived.Test.YtcfbkfmkjggcdaaGreatDoorRows
import Derived.ProofKit
import Derived.OpenShut
namespace Go.Proofs.YtcfbkfmkjggcdaaGreatDoor
namespace iinfo
open Go.ChangeShapes Go.WideShapes Go.ChangeAt Go.RowKit
set_option linter.unusedVariables false
theorem Tryzinfo : (Tryz.prog.info? 3).map (fun i=>(i.zero,i.size,i.bytes)) = some (some (.int .i64 0),1,8):=by kernel_rfl
theorem one_cell (x : Int) : ∀ u ∈ ([.int .i64 x] : List Value),u.oneCell' = true:=by intro u hu; simp at hu; subst hu; rfl
end iinfo
namespace rune
open Go Go.RowKit
noncomputable def ae2 (s : ByteArray) : List Int:=(NY s).getD []
noncomputable def okS (s : ByteArray) : Bool:=(NY s).isSome
end rune
end Go.Proofs.YtcfbkfmkjggcdaaGreatDoor
