/- A tree and a truth handed back: the cells; a tree that lies elsewhere. -/
import Derived.Test.YtangdmjdjiddcaaGreatDoorGA5
namespace Go.Proofs.YtangdmjdjiddcaaGreatDoor.tree
open Go.ChangeShapes Go.WideShapes Go.ChangeAt Go.RowKit
set_option linter.unusedVariables false

theorem tree_size2 (vs : Array Value) (h : vs.size = 6) : (Tryz.prog.info? 27).map (·.size) = some vs.size := by rw [h]; exact tree_size'
theorem ret_tree2 {fn : Func} {c u : Tmp} {tmps : Array Value} {w : World} {g : Nat} {vs : Array Value} {x : Value} (h : fn.results = #[.cell c 27, .tmp u])
    (hc : tmps.getD c undef = .pointer (some ⟨g, 0, none⟩)) (hu : tmps.getD u undef = x) (hsz : vs.size = 6) (hg : w.heap[g]? = some (.cells vs 27 (0, 0))) : (results fn tmps).run Tryz.prog w = .ok (.tuple #[.agg vs, x]) w := by
  have hl := run_loadVar_row (P := Tryz.prog) w g _ 27 vs (0, 0) _ hg Tryz.underlying27 rfl (tree_size2 vs hsz)
  rw [results_cell_tmp h, hc, hu]
  simp [asAddr, Result.andThen, hl]
/-- What impl.kidAt hands back: the very kid, in memory that is not the call's own. -/
def KidAtOut (f : Nat) (r : T × Bool) (e : Ending) (w' : World) : Prop := ∃ f2 us, f2 ≤ f ∧ e = .returned (.tuple #[.agg us.toArray, .bool r.2]) ∧ LiesS w' f2 us (row r.1)
theorem own_zero {w : World} {B : Nat} (f : Nat) : OwnS w B (f + 1) [.int .i64 0, .bool false, .int .i64 0, .string ⟨#[]⟩, .slice none 0 0, .slice none 0 0] (row zero) [] :=
  own_leaf f (wf_small (by decide) (by decide)) (wf_small (by decide) (by decide)) (by decide)
end Go.Proofs.YtangdmjdjiddcaaGreatDoor.tree
