/- laws.toStringS, as of elements of one cell. -/
import Derived.Test.YtjcfaepklakpkaaDoorStrM
import Derived.Test.YtjcfaepklakpkaaDoorLawStrTo
namespace Go.Proofs.YtjcfaepklakpkaaDoor.ty
open Go.ChangeShapes Go.WideShapes Go.ChangeAt Go.RowKit
set_option linter.unusedVariables false

theorem toStr (l : List ByteArray) (f : Nat) (v : Value) (w : World) (h : Lies w f v (.sl 1 l.length (l.flatMap Str.row))) (hw : l.length ≤ 1048576) :
    Calls Tryd.prog 45 #[v] w fun e w' => ∃ v', e = .returned v' ∧ OwnRow w' w.heap.size 1 9 1 v' l.length (l.flatMap Str.row) ∧ Below w.heap.size w w' := by
  obtain ⟨A, c, rfl, _, _, hr, hks⟩ := Str.opened h
  refine (lawStr.to_any A l.length c l w hw rfl hr).mono ?_
  rintro e w1 ⟨g, rfl, hown, hb⟩
  exact ⟨_, rfl, by rw [Str.flat]; exact ownRow_strs hown hks, hb⟩
end Go.Proofs.YtjcfaepklakpkaaDoor.ty
