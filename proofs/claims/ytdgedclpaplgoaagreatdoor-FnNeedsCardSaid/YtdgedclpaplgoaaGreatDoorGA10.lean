/- Merged: St3 NormC. -/
import Derived.Test.YtdgedclpaplgoaaGreatDoorGA5
import Derived.Test.YtdgedclpaplgoaaGreatDoorGA4
import Derived.Deep.WholeRow
import Derived.Test.YtdgedclpaplgoaaGreatDoorGA7
namespace Go.Proofs.YtdgedclpaplgoaaGreatDoor.ty
open Go Go.RowKit
set_option linter.unusedVariables false

structure St3 (LT IT : TypeId) (w : World) (ar zr cur : List Value) (z : World) : Prop where
  bel : Below w.heap.size w z
  k0 : RowE LT z w.heap.size ar
  k1 : RowE IT z (w.heap.size + 1) zr
  k2 : RowE IT z (w.heap.size + 2) cur
variable {LT IT : TypeId} {w z z' : World} {ar zr cur : List Value}
theorem St3.lt (h : St3 LT IT w ar zr cur z) : w.heap.size + 3 ≤ z.heap.size := heap_lt h.k2
theorem St3.call (h : St3 LT IT w ar zr cur z) (hb : Below z.heap.size z z') : St3 LT IT w ar zr cur z' :=
  ⟨below_link h.bel hb h.bel.size, h.k0.below hb, h.k1.below hb, h.k2.below hb⟩
theorem St3.put (h : St3 LT IT w ar zr cur z) (j : Nat) (u : Value) : St3 LT IT w ar zr (cur.set j u) (z.setCell ⟨w.heap.size + 2, j, none⟩ u) :=
  ⟨h.bel.setCell (by show w.heap.size ≤ w.heap.size + 2; omega) _, RowE.other h.k0 (by omega), RowE.other h.k1 (by omega), RowE.put h.k2 j u⟩
theorem St3.new : St3 LT IT w ar zr cur (((w.alloc (.cells ar.toArray LT)).alloc (.cells zr.toArray IT)).alloc (.cells cur.toArray IT)) := by
  refine ⟨(((Below.refl _ _).alloc (Nat.le_refl _) _).alloc (by simp) _).alloc (by simp; omega) _, ((RowE.new _ _ _).alloc).alloc, ?_, ?_⟩
  · have h := RowE.new IT (w.alloc (.cells ar.toArray LT)) zr
    rw [show (w.alloc (.cells ar.toArray LT)).heap.size = w.heap.size + 1 by simp] at h
    exact h.alloc
  · have h := RowE.new IT ((w.alloc (.cells ar.toArray LT)).alloc (.cells zr.toArray IT)) cur
    rw [show ((w.alloc (.cells ar.toArray LT)).alloc (.cells zr.toArray IT)).heap.size = w.heap.size + 2 by simp] at h
    exact h
/-- As St3, changed in the argument's own box. -/
structure St2 (IT : TypeId) (w : World) (cur zr : List Value) (z : World) : Prop where
  bel : Below w.heap.size w z
  k0 : RowE IT z w.heap.size cur
  k1 : RowE IT z (w.heap.size + 1) zr
theorem St2.lt (h : St2 IT w cur zr z) : w.heap.size + 2 ≤ z.heap.size := heap_lt h.k1
theorem St2.call (h : St2 IT w cur zr z) (hb : Below z.heap.size z z') : St2 IT w cur zr z' := ⟨below_link h.bel hb h.bel.size, h.k0.below hb, h.k1.below hb⟩
theorem St2.put (h : St2 IT w cur zr z) (j : Nat) (u : Value) : St2 IT w (cur.set j u) zr (z.setCell ⟨w.heap.size, j, none⟩ u) :=
  ⟨h.bel.setCell (Nat.le_refl _) _, RowE.put h.k0 j u, RowE.other h.k1 (by omega)⟩
theorem St2.new : St2 IT w cur zr ((w.alloc (.cells cur.toArray IT)).alloc (.cells zr.toArray IT)) := by
  refine ⟨((Below.refl _ _).alloc (Nat.le_refl _) _).alloc (by simp) _, (RowE.new _ _ _).alloc, ?_⟩
  have h := RowE.new IT (w.alloc (.cells cur.toArray IT)) zr
  rw [show (w.alloc (.cells cur.toArray IT)).heap.size = w.heap.size + 1 by simp] at h
  exact h
/-- An owned slice of a later call, with its blocks. -/
structure Og (z : World) (B E f : Nat) (v : Value) (d : C) (F : List Nat) : Prop where
  own : Own z B f v d F
  nod : F.Nodup
  rng : ∀ x ∈ F, B ≤ x ∧ x < E
theorem Og.call {B E f : Nat} {v : Value} {d : C} {F : List Nat} (h : Og z B E f v d F) (hb : Below z.heap.size z z') : Og z' B E f v d F := ⟨h.own.below hb, h.nod, h.rng⟩
theorem Og.put {B E f g j : Nat} {u v : Value} {d : C} {F : List Nat} (h : Og z B E f v d F) (hg : g < B) : Og (z.setCell ⟨g, j, none⟩ u) B E f v d F := ⟨Own.setCell_low h.own hg, h.nod, h.rng⟩
theorem Og.done {B B' E f f' g : Nat} {c : Array Value} {v : Value} {d : C} {F : List Nat} (h : Og z B E f v d F) (hg : g < B) (hB : B' ≤ B) (hf : f ≤ f') : Own (z.setRow g c) B' f' v d F :=
  Own.deeper hf ((Own.setRow_low h.own hg).lower hB)
theorem Og.apart {B E f B' E' f' : Nat} {z' : World} {v v' : Value} {d d' : C} {F F' : List Nat} (h : Og z B E f v d F) (h' : Og z' B' E' f' v' d' F') (hE : E ≤ B') : ∀ x ∈ F, x ∉ F' := fun x hx hx' => by
  have h1 := (h.rng x hx).2
  have h2 := (h'.rng x hx').1
  omega
theorem els_at {α : Type} {row : α → List C} {k f n c : Nat} {A : Option Addr} {l : List α} (hr : ∀ x, (row x).length = k) (h : Lies w f (.slice A n c) (.sl k l.length (l.flatMap row))) : ∃ f', ElsAt row w f' A l k := by
  obtain ⟨A', c', e, _, _, f', rfl, hk⟩ := els_of hr h
  injection e with e1 _ _
  subst e1
  exact ⟨f', hk⟩
end Go.Proofs.YtdgedclpaplgoaaGreatDoor.ty
namespace Go.Proofs.YtdgedclpaplgoaaGreatDoor.pod
open Go Go.RowKit ty
set_option linter.unusedVariables false

def NormOut {α : Type} (row : α → List C) (w w' : World) (e : Ending) (r : α × Bool) : Prop :=
  ∃ us D F, e = .returned (.tuple #[.agg us.toArray, .bool r.2]) ∧ OwnS w' w.heap.size (D + 1) us (row r.1) F ∧ F.Nodup ∧ Below w.heap.size w w'
theorem owns_setRow {w : World} {B f : Nat} {vs : List Value} {ds : List C} {F : List Nat} {g : Nat} {c : Array Value} (h : OwnS w B f vs ds F) (hg : g < B) : OwnS (w.setRow g c) B f vs ds F :=
  h.kept fun x hx => by
    have := (h.range x hx).1
    simp only [World.setRow, Array.getElem?_modify]
    rw [if_neg (by omega)]
theorem ret_cs {P : Program} {IT : TypeId} {fn : Func} {c d : Tmp} {tmps : Array Value} {w : World} {g : Nat} {vs : List Value} {b : Bool} {n : Nat} (h : fn.results = #[.cell c IT, .tmp d])
    (hc : tmps.getD c undef = .pointer (some ⟨g, 0, none⟩)) (hd : tmps.getD d undef = .bool b) (hsz : vs.toArray.size = n) (hu : (∃ fs, P.underlying IT = some (.struct fs))) (hs : (P.info? IT).map (·.size) = some n)
    (hg : RowE IT w g vs) : (results fn tmps).run P w = .ok (.tuple #[.agg vs.toArray, .bool b]) w := by
  obtain ⟨fs, hu⟩ := hu
  have hl := run_loadVar_row (P := P) w g _ IT vs.toArray (0, 0) _ hg hu rfl (by rw [hsz]; exact hs)
  have e : (results fn tmps).run P w = ((asAddr (tmps.getD c undef)).run P w).andThen fun a w1 => ((loadVar IT a).run P w1).andThen fun v w2 => .ok (.tuple #[v, tmps.getD d undef]) w2 := by
    simp only [results, h]
    simp [Sem.run_bind, Result.andThen]
  rw [e, hc, hd]
  simp [asAddr, Result.andThen, hl]
end Go.Proofs.YtdgedclpaplgoaaGreatDoor.pod
