/- Merged: QuietB GrB Box2 RowE. -/
import Derived.Test.YtpadpiibiocabaaDoorBase
import Derived.Deep.QuietTactic
import Derived.Sort.Grow
import Derived.Test.YtpadpiibiocabaaDoorGPre
namespace Go.Proofs.YtpadpiibiocabaaDoor
open Go Go.RowKit
set_option linter.unusedVariables false

/-- A world that keeps all that was there. -/
structure BelowBy (w : World) where
  v : World
  h : Below w.heap.size w v
def BelowBy.start (w : World) : BelowBy w := ⟨w.drewN 1, below_drewN (Below.refl _ _) 1⟩
instance (w : World) : Inhabited (BelowBy w) := ⟨BelowBy.start w⟩
theorem drew_below' {P : Program} {f : FuncId} {args : Array Value} {w : World} {E : Ending} (h : Calls P f args w fun e w' => e = E ∧ ∃ n, w' = w.drewN n) : Calls P f args w fun e w' => e = E ∧ Below w.heap.size w w' :=
  h.mono fun _ _ ⟨he, n, hn⟩ => ⟨he, by rw [hn]; exact below_drewN (Below.refl _ _) n⟩
theorem wp_region_quiet_below {P : Program} {id : Nat} {Q : Exit → Act → World → Prop} {a : Act} {w : World} {l : List Oper} (hm : P.follows .mixedOrders = true) (hB : Region.lexB .any l.toArray = true)
    (h : wpQuiet P l.toArray (fun w' => ∃ p : BelowBy w, w' = p.v) (fun a' => ∀ w', (∃ p : BelowBy w, w' = p.v) → Q .normal a' w') l a) : (Code.region id l.toArray true).wp P Q a w :=
  wp_region_quiet (C := fun w' => ∃ p : BelowBy w, w' = p.v) hm hB ⟨BelowBy.start w, rfl⟩ (by simpa using h)
theorem BelowBy.cell {w : World} {a : Addr} {v : Value} (hb : a.block < w.heap.size) (h : w.cell? a = some v) (p : BelowBy w) : p.v.cell? a = some v :=
  (World.cell?_of_block (p.h.block _ hb)).trans h
/-- A callee's contract, met in a world of the class. -/
theorem Calls.below_of {P : Program} {f : FuncId} {args : Array Value} {w : World} {p : BelowBy w} {v : Value}
    (h : Calls P f args p.v fun e w' => e = .returned v ∧ Below p.v.heap.size p.v w') : Calls P f args p.v fun e w'' => e = .returned v ∧ ∃ q : BelowBy w, w'' = q.v :=
  h.mono fun _ w' ⟨he, hw⟩ => ⟨he, ⟨w', p.h.trans (hw.mono p.h.size)⟩, rfl⟩
end Go.Proofs.YtpadpiibiocabaaDoor
namespace Go.Proofs.YtpadpiibiocabaaDoor
open Go Go.RowKit
set_option linter.unusedVariables false

def Gr (w w' : World) : Prop := ∃ q os, w' = Sort.grow (w.drewN q) os
theorem Gr.refl (w : World) : Gr w w := ⟨0, #[], by rw [Sort.grow_empty]; rfl⟩
theorem Gr.trans {a b c : World} (h : Gr a b) (k : Gr b c) : Gr a c := by
  obtain ⟨q, os, rfl⟩ := h
  obtain ⟨q', os', rfl⟩ := k
  refine ⟨q + q', os ++ os', ?_⟩
  show Sort.grow (Sort.grow ((a.drewN q).drewN q') os) os' = _
  rw [Sort.grow_grow, World.drewN_drewN]
theorem Gr.alloc {a w : World} (h : Gr a w) (o : Obj) : Gr a (w.alloc o) := h.trans ⟨0, #[o], by rw [Sort.alloc_eq_grow]; rfl⟩
theorem Gr.drewN {a w : World} (h : Gr a w) (n : Nat) : Gr a (w.drewN n) := h.trans ⟨n, #[], by rw [Sort.grow_empty]⟩
theorem Gr.drew {a w : World} (h : Gr a w) : Gr a w.drew := h.trans ⟨1, #[], by rw [Sort.grow_empty]; rfl⟩
theorem Gr.below {w w' : World} (h : Gr w w') : Below w.heap.size w w' := by
  obtain ⟨q, os, rfl⟩ := h
  refine ⟨rfl, rfl, rfl, ?_, fun k hk => ?_⟩
  · show w.heap.size ≤ (w.heap ++ os).size
    simp
  · show (w.heap ++ os)[k]? = w.heap[k]?
    rw [Array.getElem?_append_left hk]
structure GrBy (w : World) where
  v : World
  h : Gr w v
def GrBy.start (w : World) : GrBy w := ⟨w.drewN 1, (Gr.refl w).drewN 1⟩
instance (w : World) : Inhabited (GrBy w) := ⟨GrBy.start w⟩
theorem wp_region_quiet_gr {P : Program} {id : Nat} {Q : Exit → Act → World → Prop} {a : Act} {w : World} {l : List Oper} (hm : P.follows .mixedOrders = true) (hB : Region.lexB .any l.toArray = true)
    (h : wpQuiet P l.toArray (fun w' => ∃ p : GrBy w, w' = p.v) (fun a' => ∀ w', (∃ p : GrBy w, w' = p.v) → Q .normal a' w') l a) : (Code.region id l.toArray true).wp P Q a w :=
  wp_region_quiet (C := fun w' => ∃ p : GrBy w, w' = p.v) hm hB ⟨GrBy.start w, rfl⟩ (by simpa using h)
theorem GrBy.cell {w : World} {a : Addr} {v : Value} (hb : a.block < w.heap.size) (h : w.cell? a = some v) (p : GrBy w) : p.v.cell? a = some v :=
  (World.cell?_of_block (p.h.below.block _ hb)).trans h
/-- A callee's contract, met in a world of the class. -/
theorem Calls.gr_of {P : Program} {f : FuncId} {args : Array Value} {w : World} {p : GrBy w} {v : Value}
    (h : Calls P f args p.v fun e w' => e = .returned v ∧ Gr p.v w') : Calls P f args p.v fun e w'' => e = .returned v ∧ ∃ q : GrBy w, w'' = q.v :=
  h.mono fun _ w' ⟨he, hw⟩ => ⟨he, ⟨w', p.h.trans hw⟩, rfl⟩
/-- A contract in the finer form gives the coarser one. -/
theorem gr_below {P : Program} {f : FuncId} {args : Array Value} {w : World} {E : Ending} (h : Calls P f args w fun e w' => e = E ∧ Gr w w') : Calls P f args w fun e w' => e = E ∧ Below w.heap.size w w' :=
  h.mono fun _ _ ⟨he, hg⟩ => ⟨he, hg.below⟩
theorem drew_gr {P : Program} {f : FuncId} {args : Array Value} {w : World} {E : Ending} (h : Calls P f args w fun e w' => e = E ∧ ∃ n, w' = w.drewN n) : Calls P f args w fun e w' => e = E ∧ Gr w w' :=
  h.mono fun _ _ ⟨he, n, hn⟩ => ⟨he, by rw [hn]; exact (Gr.refl w).drewN n⟩
end Go.Proofs.YtpadpiibiocabaaDoor
namespace Go.Proofs.YtpadpiibiocabaaDoor.need
open Go Go.RowKit
set_option linter.unusedVariables false

/-- Two structs that came in by value, each in a box of its own. -/
def Box2 (e : TypeId) (w : World) (us vs : List Value) (w' : World) : Prop := Box e w us w' ∧ w'.heap[w.heap.size + 1]? = some (.cells vs.toArray e (0, 0))
theorem Box2.new (e : TypeId) (w : World) (us vs : List Value) : Box2 e w us vs ((w.alloc (.cells us.toArray e)).alloc (.cells vs.toArray e)) := by
  refine ⟨(Box.new e w us).below ((Below.refl _ _).alloc (Nat.le_refl _) _), ?_⟩
  have h := heap_alloc_new (w.alloc (.cells us.toArray e)) (.cells vs.toArray e)
  simpa using h
theorem Box2.below {e : TypeId} {w a b : World} {us vs : List Value} (h : Box2 e w us vs a) (k : Below a.heap.size a b) : Box2 e w us vs b := ⟨h.1.below k, heap_kept k (heap_lt h.2) h.2⟩
theorem Box2.cell1 {e : TypeId} {w a : World} {us vs : List Value} (h : Box2 e w us vs a) {j : Nat} {u : Value} (hj : us[j]? = some u) : a.cell? ⟨w.heap.size, j, none⟩ = some u := h.1.cell hj
theorem Box2.cell2 {e : TypeId} {w a : World} {us vs : List Value} (h : Box2 e w us vs a) {j : Nat} {u : Value} (hj : vs[j]? = some u) : a.cell? ⟨w.heap.size + 1, j, none⟩ = some u := by
  rw [cell_of_row a _ j _ _ _ h.2]
  simpa using hj
end Go.Proofs.YtpadpiibiocabaaDoor.need
namespace Go.Proofs.YtpadpiibiocabaaDoor
open Go Go.RowKit

def RowE (e : TypeId) (w : World) (g : Nat) (us : List Value) : Prop := w.heap[g]? = some (.cells us.toArray e (0, 0))
theorem RowE.below {e : TypeId} {w a : World} {g : Nat} {us : List Value} (h : RowE e w g us) (k : Below w.heap.size w a) : RowE e a g us := heap_kept k (heap_lt h) h
theorem RowE.cell {e : TypeId} {w : World} {g : Nat} {us : List Value} (h : RowE e w g us) (j : Nat) (u : Value) (hj : us[j]? = some u) : w.cell? ⟨g, j, none⟩ = some u := by
  rw [cell_of_row w _ j _ _ _ h]
  simpa using hj
theorem RowE.new (e : TypeId) (w : World) (us : List Value) : RowE e (w.alloc (.cells us.toArray e)) w.heap.size us := heap_alloc_new w _
theorem RowE.alloc {e e2 : TypeId} {w : World} {g : Nat} {us vs : List Value} (h : RowE e w g us) : RowE e (w.alloc (.cells vs.toArray e2)) g us := h.below ((Below.refl _ _).alloc (Nat.le_refl _) _)
theorem three_of {us : List Value} (h : us.length = 3) : ∃ a b c, us = [a, b, c] := by
  match us, h with
  | [a, b, c], _ => exact ⟨a, b, c, rfl⟩
theorem four_of {us : List Value} (h : us.length = 4) : ∃ a b c d, us = [a, b, c, d] := by
  match us, h with
  | [a, b, c, d], _ => exact ⟨a, b, c, d, rfl⟩
end Go.Proofs.YtpadpiibiocabaaDoor
