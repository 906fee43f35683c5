/- A range over a string whose iterator lies in a block of its own, other blocks turning beside it. -/
import Derived.Test.YtegpcjkcejijpaaDoorBase
import Derived.Laws.RangeAny
namespace Go.Proofs.YtegpcjkcejijpaaDoor
open Go Go.RowKit
set_option linter.unusedVariables false

/-- The iterator in block g stands at place pos. -/
def stepI (w : World) (g : Nat) (s : ByteArray) (pos : Nat) : World := { w with heap := w.heap.setIfInBounds g (.stringIter s pos) }
theorem next_yes {P : Program} (w : World) (g : Nat) (s : ByteArray) (pos : Nat) (ty : TypeId) (hg : w.heap[g]? = some (.stringIter s pos)) (h : pos < s.size) :
    (Instr.next (.pointer (some ⟨g, 0, none⟩)) true ty).run P w = .ok (.tuple #[.bool true, .int .i64 pos, .int .i32 (Utf8.decode s pos).1]) (stepI w g s (pos + (Utf8.decode s pos).2)) := by
  simp only [Instr.next, getObj, setObj, Sem.run_bind, Sem.run, hg, Result.andThen, h, if_true]
  simp [goInt, stepI]
theorem next_no {P : Program} (w : World) (g : Nat) (s : ByteArray) (pos : Nat) (ty : TypeId) (hg : w.heap[g]? = some (.stringIter s pos)) (h : ¬ pos < s.size) :
    (Instr.next (.pointer (some ⟨g, 0, none⟩)) true ty).run P w = .ok (.tuple #[.bool false]) w := by
  simp [Instr.next, getObj, Sem.run, hg, h]
theorem stepI_at {w : World} {g : Nat} {s : ByteArray} {p q : Nat} (hg : w.heap[g]? = some (.stringIter s p)) : (stepI w g s q).heap[g]? = some (.stringIter s q) := by
  have := (Array.getElem?_eq_some_iff.1 hg).1
  simp [stepI, this]
theorem stepI_grown (w : World) (g : Nat) (s : ByteArray) (p : Nat) : w.grownBy (stepI w g s p) (some g) :=
  ⟨rfl, rfl, rfl, by simp [stepI], fun k hk hne => by
    have : ¬ g = k := fun e => hne (by rw [e])
    simp [stepI, Array.getElem?_setIfInBounds, this]⟩
theorem stepI_below {w w' : World} {B g : Nat} {s : ByteArray} {p : Nat} (h : Below B w w') (hg : B ≤ g) : Below B w (stepI w' g s p) :=
  ⟨h.os, h.tape, h.output, by simpa [stepI] using h.size, fun k hk => by
    rw [← h.block k hk]
    have : ¬ g = k := by omega
    simp [stepI, Array.getElem?_setIfInBounds, this]⟩
/-- A row of the call's own is another block than an iterator's. -/
theorem own_ne_iter {w : World} {B : Nat} {e : TypeId} {v : Value} {n : Nat} {xs : List Value} {g : Nat} {s : ByteArray} {p : Nat} (h : w.ownsRow B e 1 v n xs) (hg : w.heap[g]? = some (.stringIter s p)) : v.ownBlock ≠ some g := by
  intro hv
  rcases h.2 with ⟨rfl, _⟩ | ⟨k, cap, cur, rfl, hb, hk, hnc, hcm, hcs, htake⟩
  · cases hv
  · have e : k = g := by simpa [Value.ownBlock] using hv
    subst e
    rw [hg] at hk
    cases hk
theorem own_stepI {w : World} {B : Nat} {e : TypeId} {v : Value} {n : Nat} {xs : List Value} {g : Nat} {s : ByteArray} {p q : Nat} (h : w.ownsRow B e 1 v n xs) (hg : w.heap[g]? = some (.stringIter s p)) : (stepI w g s q).ownsRow B e 1 v n xs :=
  h.kept (stepI_grown w g s q) (by
    cases hv : v.ownBlock with
    | none => exact .inl rfl
    | some k => exact .inr (fun e2 => own_ne_iter h hg (by rw [hv, e2])))
theorem own_below {w w' : World} {B : Nat} {e : TypeId} {v : Value} {n : Nat} {xs : List Value} (h : w.ownsRow B e 1 v n xs) (hb : Below w.heap.size w w') : w'.ownsRow B e 1 v n xs :=
  h.kept (grown_of_below hb none) (by
    by_cases hv : v.ownBlock = none
    · exact .inl hv
    · exact .inr hv)
theorem iter_kept {w w' : World} {g : Nat} {s : ByteArray} {p : Nat} (hg : w.heap[g]? = some (.stringIter s p)) (hb : Below w.heap.size w w') : w'.heap[g]? = some (.stringIter s p) :=
  (hb.block g (Array.getElem?_eq_some_iff.1 hg).1).trans hg
end Go.Proofs.YtegpcjkcejijpaaDoor
