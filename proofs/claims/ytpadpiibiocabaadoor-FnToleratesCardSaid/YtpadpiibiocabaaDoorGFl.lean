/- Merged: FlTaint FlTolerance. -/
import Derived.Test.YtpadpiibiocabaaDoorGGen
import Derived.Test.YtpadpiibiocabaaDoorGTn
namespace Go.Proofs.YtpadpiibiocabaaDoor.ty
open Go Go.RowKit
set_option linter.unusedVariables false

def Taint.cells (x : Taint) : List Value := [.string x.key, .string x.value, .int .i64 x.effect]
theorem Taint.cells_len (x : Taint) : x.cells.length = 3 := rfl
theorem Taint.cells_one (x : Taint) : ∀ u ∈ x.cells, u.oneCell' = true := by intro u hu; simp [Taint.cells] at hu; rcases hu with rfl | rfl | rfl <;> rfl
theorem Taint.cells_all (x : Taint) : (#[.string x.key, .string x.value, .int .i64 x.effect] : Array Value).all (·.oneCell') = true := by simp [Value.oneCell']
theorem rdk_Taint {w : World} {f : Nat} {A : Option Addr} {l : List Taint} (h : ElsAt Taint.row w f A l 3) : RdK w A l.length 3 (l.flatMap Taint.cells) ∧ ∀ x ∈ l, x.Wf := flt.rdk_of_els Taint.cells_len (by decide) (fun _ _ _ _ h => Taint.opened h) h
theorem own_Taint {w : World} {B : Nat} {e : TypeId} {v : Value} {l : List Taint} (h : w.ownsRow B e 3 v l.length (l.flatMap Taint.cells)) (hw : ∀ x ∈ l, x.Wf) : ∃ F, Own w B 2 v (.sl 3 l.length (l.flatMap Taint.row)) F ∧ F.Nodup ∧ ∀ x ∈ F, B ≤ x ∧ x < w.heap.size := flt.own_vals Taint.row_length (fun _ h => Taint.owned h) h hw
instance inhFlTaint : Inhabited Taint := ⟨⟨⟨#[]⟩, ⟨#[]⟩, 0⟩⟩
end Go.Proofs.YtpadpiibiocabaaDoor.ty
namespace Go.Proofs.YtpadpiibiocabaaDoor.ty
open Go Go.RowKit
set_option linter.unusedVariables false

def Tolerance.cells (x : Tolerance) : List Value := [.string x.key, .bool x.equal, .string x.value, .int .i64 x.effect]
theorem Tolerance.cells_len (x : Tolerance) : x.cells.length = 4 := rfl
theorem Tolerance.cells_one (x : Tolerance) : ∀ u ∈ x.cells, u.oneCell' = true := by intro u hu; simp [Tolerance.cells] at hu; rcases hu with rfl | rfl | rfl | rfl <;> rfl
theorem Tolerance.cells_all (x : Tolerance) : (#[.string x.key, .bool x.equal, .string x.value, .int .i64 x.effect] : Array Value).all (·.oneCell') = true := by simp [Value.oneCell']
theorem rdk_Tolerance {w : World} {f : Nat} {A : Option Addr} {l : List Tolerance} (h : ElsAt Tolerance.row w f A l 4) : RdK w A l.length 4 (l.flatMap Tolerance.cells) ∧ ∀ x ∈ l, x.Wf := flt.rdk_of_els Tolerance.cells_len (by decide) (fun _ _ _ _ h => Tolerance.opened h) h
theorem own_Tolerance {w : World} {B : Nat} {e : TypeId} {v : Value} {l : List Tolerance} (h : w.ownsRow B e 4 v l.length (l.flatMap Tolerance.cells)) (hw : ∀ x ∈ l, x.Wf) : ∃ F, Own w B 2 v (.sl 4 l.length (l.flatMap Tolerance.row)) F ∧ F.Nodup ∧ ∀ x ∈ F, B ≤ x ∧ x < w.heap.size := flt.own_vals Tolerance.row_length (fun _ h => Tolerance.owned h) h hw
instance inhFlTolerance : Inhabited Tolerance := ⟨⟨⟨#[]⟩, false, ⟨#[]⟩, 0⟩⟩
end Go.Proofs.YtpadpiibiocabaaDoor.ty
