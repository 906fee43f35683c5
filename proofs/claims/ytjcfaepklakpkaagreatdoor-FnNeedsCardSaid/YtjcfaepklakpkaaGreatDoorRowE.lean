/- A struct in a block of its own, whatever its length: its cells in every later world. -/
import Derived.Test.YtjcfaepklakpkaaGreatDoorGPre
namespace Go.Proofs.YtjcfaepklakpkaaGreatDoor
open Go Go.RowKit

def RowE (e : TypeId) (w : World) (g : Nat) (us : List Value) : Prop := w.heap[g]? = some (.cells us.toArray e (0, 0))
theorem RowE.below {e : TypeId} {w a : World} {g : Nat} {us : List Value} (h : RowE e w g us) (k : Below w.heap.size w a) : RowE e a g us := heap_kept k (heap_lt h) h
theorem RowE.cell {e : TypeId} {w : World} {g : Nat} {us : List Value} (h : RowE e w g us) (j : Nat) (u : Value) (hj : us[j]? = some u) : w.cell? ⟨g, j, none⟩ = some u := by
  rw [cell_of_row w _ j _ _ _ h]
  simpa using hj
theorem RowE.new (e : TypeId) (w : World) (us : List Value) : RowE e (w.alloc (.cells us.toArray e)) w.heap.size us := heap_alloc_new w _
theorem RowE.alloc {e e2 : TypeId} {w : World} {g : Nat} {us vs : List Value} (h : RowE e w g us) : RowE e (w.alloc (.cells vs.toArray e2)) g us := h.below ((Below.refl _ _).alloc (Nat.le_refl _) _)
theorem three_of {us : List Value} (h : us.length = 3) : ∃ a b c, us = [a, b, c] := by
  match us, h with
  | [a, b, c], _ => exact ⟨a, b, c, rfl⟩
theorem four_of {us : List Value} (h : us.length = 4) : ∃ a b c d, us = [a, b, c, d] := by
  match us, h with
  | [a, b, c, d], _ => exact ⟨a, b, c, d, rfl⟩
end Go.Proofs.YtjcfaepklakpkaaGreatDoor
