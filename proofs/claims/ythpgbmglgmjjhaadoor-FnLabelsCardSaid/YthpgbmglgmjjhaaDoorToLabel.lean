/- laws.toLabel. Printed by gen/gen_ty.py. -/
import Derived.Test.YthpgbmglgmjjhaaDoorTyLabel
import Derived.Test.YthpgbmglgmjjhaaDoorRows
import Derived.ProofKit
import Derived.OpenShut
import Derived.Deep.WholeRow
namespace Go.Proofs.YthpgbmglgmjjhaaDoor.ty
open Go.ChangeShapes Go.WideShapes Go.ChangeAt Go.RowKit
set_option linter.unusedVariables false

theorem sizeLabel : (Tryd.prog.info? 35).map (·.size) = some 2 := by kernel_rfl
theorem toLabel (x : Label) (w : World) (hx : x.Wf) :
    Calls Tryd.prog 42 #[.agg #[.string x.key, .string x.value]] w fun e w' => e = .returned (.agg #[.string x.key, .string x.value]) ∧ Below w.heap.size w w' := by
  obtain ⟨a0, a1⟩ := x
  clear hx
  simp only
  have Hb : Hid (∀ (a b c : Obj), Below w.heap.size w (((w.alloc a).alloc b).alloc c)) := fun a b c => (((Below.refl _ _).alloc (Nat.le_refl _) a).alloc (by simp) b).alloc (by simp <;> omega) c
  go_enter Tryd.func42, Tryd.ntmps42
  go_wp2_with fail
  refine bodyPost_ret (v := .agg #[.string a0, .string a1]) ?_ rfl ⟨rfl, Hb.out _ _ _⟩
  have hrow : (((w.alloc (.cells #[.string a0, .string a1] 57)).alloc (.cells #[.string a0, .string a1] 35)).alloc (.cells #[.string a0, .string a1] 35)).heap[w.heap.size + 1]? = some (.cells #[.string a0, .string a1] 35 (0, 0)) := by
    rw [Below.heap_alloc _ _ _ (by simp)]
    have h := heap_alloc_new (w.alloc (.cells #[.string a0, .string a1] 57)) (.cells #[.string a0, .string a1] 35)
    simpa using h
  exact results_cell_row rfl _ _ (w.heap.size + 1) _ #[.string a0, .string a1] (0, 0) _ rfl hrow Tryd.underlying35 rfl sizeLabel
end Go.Proofs.YthpgbmglgmjjhaaDoor.ty
