/- A list's tree, as it lies. -/
import Derived.Test.YtangdmjdjiddcaaDoorGA4
namespace Go.Proofs.YtangdmjdjiddcaaDoor.tree
open Go.ChangeShapes Go.WideShapes Go.ChangeAt Go.RowKit
set_option linter.unusedVariables false

theorem lies_list {w : World} {f : Nat} {kids : List T} {v : Value} (h : Lies w (f + 1) v (.sl 6 kids.length (rows kids))) : LiesS w (f + 1) [.int .i64 5, .bool false, .int .i64 0, .string ⟨#[]⟩, .slice none 0 0, v] (row (listT kids)) := by
  have h5 : (Lit.int .i64 5).wf = true := wf_small (by decide) (by decide)
  have h0 : (Lit.int .i64 0).wf = true := wf_small (by decide) (by decide)
  unfold listT
  rw [row]
  have l0 : Lies w (f + 1) (.int .i64 5) (.int .i64 5) := ⟨rfl, h5⟩
  have l1 : Lies w (f + 1) (.bool false) (.bool false) := rfl
  have l2 : Lies w (f + 1) (.int .i64 0) (.int .i64 0) := ⟨rfl, h0⟩
  have l3 : Lies w (f + 1) (.string ⟨#[]⟩) (.str ⟨#[]⟩) := ⟨rfl, by decide⟩
  have l4 : Lies w (f + 1) (.slice none 0 0) (.sl 1 0 []) := (own_nil w 0 f 1).lies
  exact LiesS.cons l0 (LiesS.cons l1 (LiesS.cons l2 (LiesS.cons l3 (LiesS.cons l4 (LiesS.cons h LiesS.nil)))))
end Go.Proofs.YtangdmjdjiddcaaDoor.tree
