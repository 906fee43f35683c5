/- A region that draws and whose calls may make memory of their own, walked once in the order of the text: the class of worlds is 'as before below'. Over any program. -/
import Derived.Test.YtjcfaepklakpkaaDoorBase
import Derived.Deep.QuietTactic
namespace Go.Proofs.YtjcfaepklakpkaaDoor
open Go Go.RowKit
set_option linter.unusedVariables false

/-- A world that keeps all that was there. -/
structure BelowBy (w : World) where
  v : World
  h : Below w.heap.size w v
def BelowBy.start (w : World) : BelowBy w := ⟨w.drewN 1, below_drewN (Below.refl _ _) 1⟩
instance (w : World) : Inhabited (BelowBy w) := ⟨BelowBy.start w⟩
theorem drew_below' {P : Program} {f : FuncId} {args : Array Value} {w : World} {E : Ending} (h : Calls P f args w fun e w' => e = E ∧ ∃ n, w' = w.drewN n) : Calls P f args w fun e w' => e = E ∧ Below w.heap.size w w' :=
  h.mono fun _ _ ⟨he, n, hn⟩ => ⟨he, by rw [hn]; exact below_drewN (Below.refl _ _) n⟩
theorem wp_region_quiet_below {P : Program} {id : Nat} {Q : Exit → Act → World → Prop} {a : Act} {w : World} {l : List Oper} (hm : P.follows .mixedOrders = true) (hB : Region.lexB .any l.toArray = true)
    (h : wpQuiet P l.toArray (fun w' => ∃ p : BelowBy w, w' = p.v) (fun a' => ∀ w', (∃ p : BelowBy w, w' = p.v) → Q .normal a' w') l a) : (Code.region id l.toArray true).wp P Q a w :=
  wp_region_quiet (C := fun w' => ∃ p : BelowBy w, w' = p.v) hm hB ⟨BelowBy.start w, rfl⟩ (by simpa using h)
theorem BelowBy.cell {w : World} {a : Addr} {v : Value} (hb : a.block < w.heap.size) (h : w.cell? a = some v) (p : BelowBy w) : p.v.cell? a = some v :=
  (World.cell?_of_block (p.h.block _ hb)).trans h
/-- A callee's contract, met in a world of the class. -/
theorem Calls.below_of {P : Program} {f : FuncId} {args : Array Value} {w : World} {p : BelowBy w} {v : Value}
    (h : Calls P f args p.v fun e w' => e = .returned v ∧ Below p.v.heap.size p.v w') : Calls P f args p.v fun e w'' => e = .returned v ∧ ∃ q : BelowBy w, w'' = q.v :=
  h.mono fun _ w' ⟨he, hw⟩ => ⟨he, ⟨w', p.h.trans (hw.mono p.h.size)⟩, rfl⟩
end Go.Proofs.YtjcfaepklakpkaaDoor
