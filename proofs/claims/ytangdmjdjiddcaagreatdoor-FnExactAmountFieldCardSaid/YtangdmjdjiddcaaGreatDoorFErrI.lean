/- impl's error of a field (fieldError: code, place, path); what the walk asks of errors.errorType; impl.errorAt. -/
import Derived.Test.YtangdmjdjiddcaaGreatDoorFaultB
import Derived.Test.YtangdmjdjiddcaaGreatDoorFieldN
namespace Go.Proofs.YtangdmjdjiddcaaGreatDoor.field
open Go.ChangeShapes Go.WideShapes Go.ChangeAt Go.RowKit
set_option linter.unusedVariables false

theorem sizeFE : (Tryz.prog.info? 80).map (·.size) = some 3 := by kernel_rfl
/-- How many package-level variables there are: the block of the types' handles. -/
noncomputable def nG : Nat := Tryz.prog.globals.size
/-- The variable errors.errorType holds the handle of the type error. -/
def ET (w : World) : Prop := w.var? Tryz.prog "errors.errorType" = some #[.iface 118 (.agg #[.pointer (some ⟨nG, 50, none⟩)])]
theorem ET.below {w w' : World} (h : ET w) (hb : Below w.heap.size w w') : ET w' := var_below h hb
theorem ET.cell {w : World} (h : ET w) : w.cell? ⟨0, 0, none⟩ = some (.iface 118 (.agg #[.pointer (some ⟨nG, 50, none⟩)])) := by
  have e : Tryz.prog.globalNamed "errors.errorType" = some 0 := by kernel_rfl
  simpa using World.var?_cell e h 0
/-- A fault as an error; none: nil. -/
def errV : Option Flt → Value
  | none => .nilIface
  | some f => .iface 80 (.agg #[.int .i64 f.1, .int .i64 0, .string f.2])
theorem impl_errorAt (p : ByteArray) (c : Int) (w : World) :
    Calls Tryz.prog 46 #[.string p, .int .i64 c] w fun e w' => e = .returned (errV (some (c, p))) ∧ Below w.heap.size w w' := by
  go_enter Tryz.func46, Tryz.ntmps46
  go_wp2_with fail
  go_ret
  exact ⟨rfl, by first | exact Below.refl _ _ | exact (Below.refl _ _).alloc (Nat.le_refl _) _⟩
end Go.Proofs.YtangdmjdjiddcaaGreatDoor.field
