/- Two boxes laid one behind the other, then stored into. -/
import Derived.Test.YtangdmjdjiddcaaDoorGA4
import Derived.Deep.WholeRow
namespace Go.Proofs.YtangdmjdjiddcaaDoor
open Go Go.RowKit
set_option linter.unusedVariables false

theorem RowE.but {e : TypeId} {w w' : World} {g : Nat} {us : List Value} {F : List Nat} (h : RowE e w g us) (hk : KeptBut F w w') (hg : g ∉ F) : RowE e w' g us := (hk.block g (heap_lt h) hg).trans h
theorem heap_under (w : World) (z g : Array Value) (t t2 : TypeId) : ((w.alloc (.cells z t)).alloc (.cells g t2)).heap[w.heap.size]? = some (.cells z t (0, 0)) := by
  rw [Below.heap_alloc _ _ _ (by simp)]
  exact heap_alloc_new w _
theorem heap_over (w : World) (z g : Array Value) (t t2 : TypeId) : ((w.alloc (.cells z t)).alloc (.cells g t2)).heap[w.heap.size + 1]? = some (.cells g t2 (0, 0)) := by
  have h := heap_alloc_new (w.alloc (.cells z t)) (.cells g t2)
  simpa using h
theorem set_under (w : World) (z g c : Array Value) (t t2 : TypeId) : ((w.alloc (.cells z t)).alloc (.cells g t2)).setRow w.heap.size c = (w.alloc (.cells c t)).alloc (.cells g t2) := by
  simp only [World.setRow, World.alloc]
  congr 1
  apply Array.ext_getElem?
  intro i
  rw [Array.getElem?_modify]
  by_cases h : w.heap.size = i
  · subst h
    simp [Array.getElem?_push]
  · simp [Array.getElem?_push, h]
    split
    · rfl
    · split
      · omega
      · rfl
theorem set_over (w : World) (z g c : Array Value) (t t2 : TypeId) : ((w.alloc (.cells z t)).alloc (.cells g t2)).setRow (w.heap.size + 1) c = (w.alloc (.cells z t)).alloc (.cells c t2) := by
  have h := World.setRow_alloc_new (w.alloc (.cells z t)) g c t2
  simpa using h
end Go.Proofs.YtangdmjdjiddcaaDoor
