/- FnNeeds: for every byte slice the law returns true. -/
import Derived.Test.YtdgedclpaplgoaaGreatDoorGA18
import Derived.Test.YtdgedclpaplgoaaGreatDoorDrawNv
namespace Go.Proofs.YtdgedclpaplgoaaGreatDoor.fnNeeds
open Go.ChangeShapes Go.WideShapes Go.ChangeAt Go.RowKit
open lab ty draw need dedup
set_option linter.unusedVariables false

theorem walk (A : Option Addr) (len cap : Nat) (zs : List Int) (W : World) (hr : IsRow .u8 W A len cap zs) :
    Calls Tryz.prog 3 #[.slice A len cap] W fun e w' => e = .returned (.bool true) ∧ Below W.heap.size W w' :=
  walk_given A len cap W hr.le fun h => sortneeds_any A len cap zs W hr h
end Go.Proofs.YtdgedclpaplgoaaGreatDoor.fnNeeds
