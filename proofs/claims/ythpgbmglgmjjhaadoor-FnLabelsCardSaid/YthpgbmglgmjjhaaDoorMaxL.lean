/- What strings.Index, Split and Cut read of memory. -/
import Derived.Test.YthpgbmglgmjjhaaDoorBase
import Derived.Test.YthpgbmglgmjjhaaDoorShelf
import Derived.Test.YthpgbmglgmjjhaaDoorRows
import Derived.ProofKit
import Derived.OpenShut
namespace Go.Proofs.YthpgbmglgmjjhaaDoor.line
open Go.ChangeShapes Go.WideShapes Go.ChangeAt Go.RowKit
set_option linter.unusedVariables false

/-- What strings.Index reads of memory: an int. -/
def MaxL (w : World) : Prop := ∃ m : Int, w.cell? ⟨0, 0, none⟩ = some (.int .i64 m)
theorem MaxL.below {w w' : World} (h : MaxL w) (hb : Below w.heap.size w w') : MaxL w' := by
  obtain ⟨m, h⟩ := h
  exact ⟨m, (hb.cell (World.block_lt_of_cell? _ _ h)).trans h⟩
theorem MaxL.of_shaped {w : World} (h : w.ShapedOpen Tryd.prog) : MaxL w := Tryd.laysM143.s1_3 w h
end Go.Proofs.YthpgbmglgmjjhaaDoor.line
