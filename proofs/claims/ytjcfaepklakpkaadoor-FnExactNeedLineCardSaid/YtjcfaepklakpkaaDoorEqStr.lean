/- laws.eqStringS, as of elements of one cell, on equal ones. -/
import Derived.Test.YtjcfaepklakpkaaDoorStrM
import Derived.Test.YtjcfaepklakpkaaDoorLawStrEq
namespace Go.Proofs.YtjcfaepklakpkaaDoor.ty
open Go.ChangeShapes Go.WideShapes Go.ChangeAt Go.RowKit
set_option linter.unusedVariables false

theorem eqStr (l : List ByteArray) (f1 f2 : Nat) (v1 v2 : Value) (w : World) (h1 : Lies w f1 v1 (.sl 1 l.length (l.flatMap Str.row))) (h2 : Lies w f2 v2 (.sl 1 l.length (l.flatMap Str.row))) :
    Calls Tryd.prog 46 #[v1, v2] w fun e w' => e = .returned (.bool true) ∧ Below w.heap.size w w' := by
  obtain ⟨A1, c1, rfl, k1, m1, r1, _⟩ := Str.opened h1
  obtain ⟨A2, c2, rfl, k2, m2, r2, _⟩ := Str.opened h2
  refine (lawStr.eq_yes A1 A2 l.length c1 c2 l w (by omega) rfl r1 r2).mono ?_
  rintro e w1 ⟨rfl, n, rfl⟩
  exact ⟨rfl, below_drewN (Below.refl _ _) n⟩
end Go.Proofs.YtjcfaepklakpkaaDoor.ty
