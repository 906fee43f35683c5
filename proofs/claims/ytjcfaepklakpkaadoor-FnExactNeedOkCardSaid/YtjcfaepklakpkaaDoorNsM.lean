/- Structs with slices inside: what a call hands back. Over any program. -/
import Derived.Test.YtjcfaepklakpkaaDoorEl
namespace Go.Proofs.YtjcfaepklakpkaaDoor
open Go Go.RowKit
set_option linter.unusedVariables false

/-- A struct in memory of the call's own is handed back. -/
def AggOut (w : World) (D : Nat) (ds : List C) (e : Ending) (w' : World) : Prop :=
  ∃ us F, e = .returned (.agg us.toArray) ∧ OwnS w' w.heap.size D us ds F ∧ F.Nodup ∧ Below w.heap.size w w'
theorem OwnRow.is_slice {w : World} {B f : Nat} {e : TypeId} {size : Nat} {v : Value} {n : Nat} {cells : List C} (h : OwnRow w B f e size v n cells) : ∃ A c, v = .slice A n c := by
  obtain ⟨xs, F, h1, _⟩ := h
  rcases h1.2 with ⟨rfl, rfl⟩ | ⟨g, cap, cur, rfl, _⟩
  · exact ⟨none, 0, rfl⟩
  · exact ⟨_, _, rfl⟩
theorem LiesS.keep {w w' : World} {f : Nat} {vs : List Value} {ds : List C} (h : LiesS w f vs ds) (hb : Below w.heap.size w w') : LiesS w' f vs ds := h.kept hb.block
theorem size_setCell (w : World) (a : Addr) (u : Value) : (w.setCell a u).heap.size = w.heap.size := by simp [World.setCell]
end Go.Proofs.YtjcfaepklakpkaaDoor
