/- laws.eqFault. -/
import Derived.Test.YtangdmjdjiddcaaDoorFaultB
namespace Go.Proofs.YtangdmjdjiddcaaDoor.field
open Go.ChangeShapes Go.WideShapes Go.ChangeAt Go.RowKit
set_option linter.unusedVariables false

theorem row3 {w : World} {g : Nat} {t : TypeId} {a b c : Value} (h : w.heap[g]? = some (.cells #[a, b, c] t (0, 0))) : w.cell? ⟨g, 0, none⟩ = some a ∧ w.cell? ⟨g, 1, none⟩ = some b ∧ w.cell? ⟨g, 2, none⟩ = some c :=
  ⟨by rw [cell_of_row w g 0 _ t (0, 0) h]; rfl, by rw [cell_of_row w g 1 _ t (0, 0) h]; rfl, by rw [cell_of_row w g 2 _ t (0, 0) h]; rfl⟩
theorem eq_fault (c : Int) (q : ByteArray) (w : World) :
    Calls Tryd.prog 17 #[.agg #[.int .i64 c, .int .i64 0, .string q], .agg #[.int .i64 c, .int .i64 0, .string q]] w fun e w' => e = .returned (.bool true) ∧ Below w.heap.size w w' := by
  have h0 : ((w.alloc (.cells #[.int .i64 c, .int .i64 0, .string q] 31)).alloc (.cells #[.int .i64 c, .int .i64 0, .string q] 31)).heap[w.heap.size]? = some (.cells #[.int .i64 c, .int .i64 0, .string q] 31 (0, 0)) := by
    rw [Below.heap_alloc _ _ _ (by simp)]
    exact heap_alloc_new w _
  have h1 : ((w.alloc (.cells #[.int .i64 c, .int .i64 0, .string q] 31)).alloc (.cells #[.int .i64 c, .int .i64 0, .string q] 31)).heap[w.heap.size + 1]? = some (.cells #[.int .i64 c, .int .i64 0, .string q] 31 (0, 0)) := by
    have h := heap_alloc_new (w.alloc (.cells #[.int .i64 c, .int .i64 0, .string q] 31)) (.cells #[.int .i64 c, .int .i64 0, .string q] 31)
    simpa using h
  obtain ⟨a0, a1, a2⟩ := row3 h0
  obtain ⟨b0, b1, b2⟩ := row3 h1
  have hs : (q.toList == q.toList) = true := by simp
  clear h0 h1
  go_enter Tryd.func17, Tryd.ntmps17
  go_wp2_with fail
  go_ret
  exact ⟨rfl, ((Below.refl _ _).alloc (Nat.le_refl _) _).alloc (by simp) _⟩
end Go.Proofs.YtangdmjdjiddcaaDoor.field
