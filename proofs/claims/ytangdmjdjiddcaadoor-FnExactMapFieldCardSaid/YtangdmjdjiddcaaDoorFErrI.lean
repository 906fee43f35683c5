/- impl's error of a field (fieldError: code, place, path); what the walk asks of errors.errorType; impl.errorAt. -/
import Derived.Test.YtangdmjdjiddcaaDoorFaultB
import Derived.Test.YtangdmjdjiddcaaDoorFieldN
namespace Go.Proofs.YtangdmjdjiddcaaDoor.field
open Go.ChangeShapes Go.WideShapes Go.ChangeAt Go.RowKit
set_option linter.unusedVariables false

theorem sizeFE : (Tryd.prog.info? 93).map (·.size) = some 3 := by kernel_rfl
/-- How many package-level variables there are: the block of the types' handles. -/
noncomputable def nG : Nat := Tryd.prog.globals.size
/-- The variable errors.errorType holds the handle of the type error. -/
def ET (w : World) : Prop := w.var? Tryd.prog "errors.errorType" = some #[.iface 123 (.agg #[.pointer (some ⟨nG, 64, none⟩)])]
theorem ET.below {w w' : World} (h : ET w) (hb : Below w.heap.size w w') : ET w' := var_below h hb
theorem ET.cell {w : World} (h : ET w) : w.cell? ⟨0, 0, none⟩ = some (.iface 123 (.agg #[.pointer (some ⟨nG, 64, none⟩)])) := by
  have e : Tryd.prog.globalNamed "errors.errorType" = some 0 := by kernel_rfl
  simpa using World.var?_cell e h 0
/-- A fault as an error; none: nil. -/
def errV : Option Flt → Value
  | none => .nilIface
  | some f => .iface 93 (.agg #[.int .i64 f.1, .int .i64 0, .string f.2])
theorem impl_errorAt (p : ByteArray) (c : Int) (w : World) :
    Calls Tryd.prog 64 #[.string p, .int .i64 c] w fun e w' => e = .returned (errV (some (c, p))) ∧ Below w.heap.size w w' := by
  go_enter Tryd.func64, Tryd.ntmps64
  go_wp2_with fail
  go_ret
  exact ⟨rfl, by first | exact Below.refl _ _ | exact (Below.refl _ _).alloc (Nat.le_refl _) _⟩
end Go.Proofs.YtangdmjdjiddcaaDoor.field
