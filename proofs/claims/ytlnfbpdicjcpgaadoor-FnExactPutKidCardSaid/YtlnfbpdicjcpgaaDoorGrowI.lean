/- slices.Grow of the nil slice, at strings and at trees. -/
import Derived.Test.YtlnfbpdicjcpgaaDoorGTree
import Derived.Lib.AppendZeros
import Derived.Lib.AppendZerosOnto
import Derived.Lib.SliceRun
import Derived.WalkKit
import Derived.Lib.Walk
namespace Go.Proofs.YtlnfbpdicjcpgaaDoor.tree
open Go.ChangeShapes Go.WideShapes Go.ChangeAt Go.RowKit Go.Lib
set_option linter.unusedVariables false

theorem grow_run {t tn ty e : TypeId} {i : TypeInfo} {z : Value} {k : IntKind} (ht : Tryd.prog.underlying t = some (.slice e)) (htn : Tryd.prog.underlying tn = some (.int k)) (hi : Tryd.prog.info? e = some i) (hz : i.zero = some z) (w : World) (n : Nat) (h0 : 0 < n) (hs : 0 < i.size) (hn : n ≤ 1099511627776) (hb : i.bytes ≤ 88) :
    (Builtin.append_ #[t, tn] ty #[.slice none 0 0, .int .i64 n]).run Tryd.prog w = .ok (.slice (some ⟨w.heap.size, 0, none⟩) n (grownCap w n 0 e)) (w.drew.alloc (.cells (Builtin.zeroCells z.cells n ++ Builtin.zeroCells z.cells (grownCap w n 0 e - n)) e)) := by
  have hm : n * i.bytes ≤ 1099511627776 * 88 := Nat.mul_le_mul hn hb
  have h := Lib.run_append_grow_zeros w t tn ty e i z .i64 k ht htn hi hz none 0 0 [] (run_firstCells_none w.drew i.size 0 0 0) n h0 hs (by omega) (by omega) (by omega) (by rw [Nat.zero_add]; exact growslice_fits h0 (by omega))
  rw [Nat.zero_add] at h
  simpa using h

theorem grow_own {w : World} {e : TypeId} {z : Value} {size n : Nat} (hz : z.cells.size = size) (hn : n ≤ 1099511627776) :
    (w.drew.alloc (.cells (Builtin.zeroCells z.cells n ++ Builtin.zeroCells z.cells (grownCap w n 0 e - n)) e)).ownsRow w.heap.size e size (.slice (some ⟨w.heap.size, 0, none⟩) 0 (grownCap w n 0 e)) 0 [] := by
  have hg := grownCap_ge w n 0 e
  refine ⟨by simp, .inr ⟨w.heap.size, _, _, rfl, Nat.le_refl _, heap_alloc_new w.drew _, Nat.zero_le _, grownCap_le_maxLen w n 0 e (by unfold maxLen; omega), ?_, by simp⟩⟩
  simp only [Array.size_append, size_zeroCells, hz]
  rw [← Nat.add_mul]
  congr 1
  omega

theorem grow_strs (n : Nat) (w : World) (hn : n ≤ 1099511627776) : Calls Tryd.prog 79 #[.slice none 0 0, .int .i64 n] w fun e w' => ∃ v, e = .returned v ∧ w'.ownsRow w.heap.size 9 1 v 0 [] ∧ Below w.heap.size w w' := by
  obtain ⟨i0, hi, hz0, hz1, hz2⟩ := info_parts TrydinfoStr'
  have h1 : ¬ ((n : Int) < 0) := by omega
  by_cases h0 : 0 < n
  · have Hr := Lib.hid (fun ty => grow_run (ty := ty) Tryd.underlying22 Tryd.underlying3 hi hz0 w n h0 (by omega) hn (by omega))
    have Ho := Lib.hid (grow_own (w := w) (e := 9) (n := n) (z := .string ⟨#[]⟩) (size := 1) rfl hn)
    have hp : (n : Int) > 0 := by omega
    have hG : grownCap w n 0 9 ≤ 9223372036854775807 := by
      have := grownCap_le_maxLen w n 0 9 (by unfold maxLen; omega)
      unfold maxLen at this
      omega
    have hGn := grownCap_ge w n 0 9
    clear hz0 hz1 hz2 hi
    go_enter Tryd.func79, Tryd.ntmps79
    go_wp2_with (at_builtin; refine Lib.wpList_append_run _ rfl _ _ _ _ rfl _ _ rfl rfl _ _ (Hr.out _) ?_)
    go_ret
    exact ⟨_, rfl, Ho.out, ((Below.refl _ _).alloc (Nat.le_refl _) _).drew⟩
  · obtain rfl : n = 0 := by omega
    go_enter Tryd.func79, Tryd.ntmps79
    go_wp2_with fail
    go_ret
    exact ⟨_, rfl, ⟨by simp, .inl ⟨rfl, rfl⟩⟩, Below.refl _ _⟩

theorem grow_trees (n : Nat) (w : World) (hn : n ≤ 1099511627776) : Calls Tryd.prog 80 #[.slice none 0 0, .int .i64 n] w fun e w' => ∃ v, e = .returned v ∧ w'.ownsRow w.heap.size 29 6 v 0 [] ∧ Below w.heap.size w w' := by
  obtain ⟨i0, hi, hz0, hz1, hz2⟩ := info_parts TrydinfoTree'
  have h1 : ¬ ((n : Int) < 0) := by omega
  by_cases h0 : 0 < n
  · have Hr := Lib.hid (fun ty => grow_run (ty := ty) Tryd.underlying27 Tryd.underlying3 hi hz0 w n h0 (by omega) hn (by omega))
    have Ho := Lib.hid (grow_own (w := w) (e := 29) (n := n) (z := .agg #[.int .i64 0, .bool false, .int .i64 0, .string ⟨#[]⟩, .slice none 0 0, .slice none 0 0]) (size := 6) rfl hn)
    have hp : (n : Int) > 0 := by omega
    have hG : grownCap w n 0 29 ≤ 9223372036854775807 := by
      have := grownCap_le_maxLen w n 0 29 (by unfold maxLen; omega)
      unfold maxLen at this
      omega
    have hGn := grownCap_ge w n 0 29
    clear hz0 hz1 hz2 hi
    go_enter Tryd.func80, Tryd.ntmps80
    go_wp2_with (at_builtin; refine Lib.wpList_append_run _ rfl _ _ _ _ rfl _ _ rfl rfl _ _ (Hr.out _) ?_)
    go_ret
    exact ⟨_, rfl, Ho.out, ((Below.refl _ _).alloc (Nat.le_refl _) _).drew⟩
  · obtain rfl : n = 0 := by omega
    go_enter Tryd.func80, Tryd.ntmps80
    go_wp2_with fail
    go_ret
    exact ⟨_, rfl, ⟨by simp, .inl ⟨rfl, rfl⟩⟩, Below.refl _ _⟩
end Go.Proofs.YtlnfbpdicjcpgaaDoor.tree
