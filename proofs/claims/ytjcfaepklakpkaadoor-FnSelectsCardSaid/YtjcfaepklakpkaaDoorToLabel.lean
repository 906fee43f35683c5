/- laws.toLabel. Printed by gen/gen_ty.py. -/
import Derived.Test.YtjcfaepklakpkaaDoorGLabP
import Derived.Test.YtjcfaepklakpkaaDoorRows
import Derived.ProofKit
import Derived.OpenShut
import Derived.Deep.WholeRow
namespace Go.Proofs.YtjcfaepklakpkaaDoor.ty
open Go.ChangeShapes Go.WideShapes Go.ChangeAt Go.RowKit
set_option linter.unusedVariables false

theorem sizeLabel : (Tryd.prog.info? 75).map (·.size) = some 2 := by kernel_rfl
theorem toLabel (x : Label) (w : World) (hx : x.Wf) :
    Calls Tryd.prog 50 #[.agg #[.string x.key, .string x.value]] w fun e w' => e = .returned (.agg #[.string x.key, .string x.value]) ∧ Below w.heap.size w w' := by
  obtain ⟨a0, a1⟩ := x
  clear hx
  simp only
  have Hb : Hid (∀ (a b c : Obj), Below w.heap.size w (((w.alloc a).alloc b).alloc c)) := fun a b c => (((Below.refl _ _).alloc (Nat.le_refl _) a).alloc (by simp) b).alloc (by simp <;> omega) c
  go_enter Tryd.func50, Tryd.ntmps50
  go_wp2_with fail
  refine bodyPost_ret (v := .agg #[.string a0, .string a1]) ?_ rfl ⟨rfl, Hb.out _ _ _⟩
  have hrow : (((w.alloc (.cells #[.string a0, .string a1] 71)).alloc (.cells #[.string a0, .string a1] 75)).alloc (.cells #[.string a0, .string a1] 75)).heap[w.heap.size + 1]? = some (.cells #[.string a0, .string a1] 75 (0, 0)) := by
    rw [Below.heap_alloc _ _ _ (by simp)]
    have h := heap_alloc_new (w.alloc (.cells #[.string a0, .string a1] 71)) (.cells #[.string a0, .string a1] 75)
    simpa using h
  exact results_cell_row rfl _ _ (w.heap.size + 1) _ #[.string a0, .string a1] (0, 0) _ rfl hrow Tryd.underlying75 rfl sizeLabel
end Go.Proofs.YtjcfaepklakpkaaDoor.ty
