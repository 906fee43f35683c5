/- The element of a byte slice. -/
import Derived.Test.YthpgbmglgmjjhaaDoorBase
import Derived.Test.YthpgbmglgmjjhaaDoorRows
import Derived.ProofKit
import Derived.OpenShut
namespace Go.Proofs.YthpgbmglgmjjhaaDoor.binfo
open Go.ChangeShapes Go.WideShapes Go.ChangeAt Go.RowKit
set_option linter.unusedVariables false
theorem Trydinfo : (Tryd.prog.info? 5).map (fun i => (i.zero, i.size, i.bytes)) = some (some (.int .u8 0), 1, 1) := by kernel_rfl
theorem conv {w : World} {B : Nat} {v : Value} {l : List UInt8} {n : Nat} (hn : l.length = n) (h : w.ownsRow B 5 1 v n (bcells l)) :
    (convert 22 9 v).run Tryd.prog w = .ok (.string ⟨l.toArray⟩) w :=
  run_convert_own (P := Tryd.prog) w 22 5 9 Tryd.underlying22 Tryd.underlying5 Tryd.underlying9 B v l (by unfold OwnB; rw [hn]; exact h)
theorem snoc (l : List UInt8) (n : Nat) (z : Int) (hz : z = (n : Int)) (h : n < 256) : bcells l ++ [.int .u8 z] = bcells (l ++ [UInt8.ofNat n]) := by
  rw [bcells_append]
  subst hz
  have : (UInt8.ofNat n).toNat = n := by simp; omega
  simp [bcells, this]
theorem one_cell (z : Int) : ∀ u ∈ ([.int .u8 z] : List Value), u.oneCell' = true := by intro u hu; simp at hu; subst hu; rfl
end Go.Proofs.YthpgbmglgmjjhaaDoor.binfo
