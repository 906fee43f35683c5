/- The law's own helpers on a frame: szFrame, toFrame. -/
import Derived.Test.YtljahpngngmecaaFrOkS
namespace Go.Proofs.Ytljahpngngmecaa.lawFrame
open Go.ChangeShapes Go.WideShapes Go.ChangeAt Go.RowKit
open frame
set_option linter.unusedVariables false

theorem sz_yes (v : Int) (p : ByteArray) (w : World) (h : p.size ≤ 1048576) :
    Calls Try.prog 6 #[frV v p, .int .i64 1048576] w fun e w' => e = .returned (.int .i64 (1048576 - (p.size : Int))) ∧ Below w.heap.size w w' := by
  unfold frV
  have hb : Below w.heap.size w (w.alloc (.cells #[.int .i64 v, .string p] 23)) := (Below.refl _ _).alloc (Nat.le_refl _) _
  go_enter Try.func6, Try.ntmps6
  go_wp2_with fail
  go_ret
  exact ⟨rfl, hb⟩
theorem sz_no (v : Int) (p : ByteArray) (w : World) (hp : p.size ≤ maxLen) (h : 1048576 < p.size) :
    Calls Try.prog 6 #[frV v p, .int .i64 1048576] w fun e w' => e = .returned (.int .i64 (-1)) ∧ Below w.heap.size w w' := by
  unfold frV
  unfold maxLen at hp
  have hb : Below w.heap.size w (w.alloc (.cells #[.int .i64 v, .string p] 23)) := (Below.refl _ _).alloc (Nat.le_refl _) _
  go_enter Try.func6, Try.ntmps6
  go_wp2_with fail
  go_ret
  exact ⟨rfl, hb⟩
theorem to_any (v : Int) (p : ByteArray) (w : World) :
    Calls Try.prog 8 #[frV v p] w fun e w' => e = .returned (frV v p) ∧ Below w.heap.size w w' := by
  unfold frV
  have Hb : Hid (∀ (a b c : Obj), Below w.heap.size w (((w.alloc a).alloc b).alloc c)) := fun a b c => (((Below.refl _ _).alloc (Nat.le_refl _) a).alloc (by simp) b).alloc (by simp; omega) c
  go_enter Try.func8, Try.ntmps8
  go_wp2_with fail
  refine bodyPost_ret (v := .agg #[.int .i64 v, .string p]) ?_ rfl ⟨rfl, Hb.out _ _ _⟩
  have hrow : (((w.alloc (.cells #[.int .i64 v, .string p] 23)).alloc (.cells #[.int .i64 v, .string p] 26)).alloc (.cells #[.int .i64 v, .string p] 26)).heap[w.heap.size + 1]? = some (.cells #[.int .i64 v, .string p] 26 (0, 0)) := by
    rw [Below.heap_alloc _ _ _ (by simp)]
    have h := heap_alloc_new (w.alloc (.cells #[.int .i64 v, .string p] 23)) (.cells #[.int .i64 v, .string p] 26)
    simpa using h
  exact results_cell_row rfl _ _ (w.heap.size + 1) _ #[.int .i64 v, .string p] (0, 0) _ rfl hrow Try.underlying26 rfl frame_info
end Go.Proofs.Ytljahpngngmecaa.lawFrame
