/- A label just laid. -/
import Derived.Test.YthpgbmglgmjjhaaDoorFlatLab
import Derived.Test.YthpgbmglgmjjhaaDoorLabI
import Derived.Test.YthpgbmglgmjjhaaDoorLawL
import Derived.Deep.RegionLaw
namespace Go.Proofs.YthpgbmglgmjjhaaDoor.lab
open Go.ChangeShapes Go.WideShapes Go.ChangeAt Go.RowKit ty
set_option linter.unusedVariables false

theorem rdk_new (w : World) (x y : ByteArray) : RdK (w.alloc (.cells #[.string x, .string y] 35)) (some ⟨w.heap.size, 0, none⟩) 1 2 [.string x, .string y] := by
  refine ⟨rfl, fun _ => ⟨_, 0, rfl, by simp, fun j u hu => ?_⟩⟩
  rw [Nat.zero_add, cell_of_row _ _ _ _ _ _ (heap_alloc_new w _)]
  simpa using hu
end Go.Proofs.YthpgbmglgmjjhaaDoor.lab
