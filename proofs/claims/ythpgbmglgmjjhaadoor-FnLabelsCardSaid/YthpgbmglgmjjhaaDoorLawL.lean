/- Laws over slices of structs: what all of them ask. -/
import Derived.Test.YthpgbmglgmjjhaaDoorGLabM
import Derived.Test.YthpgbmglgmjjhaaDoorGPre
import Derived.ProofKit
namespace Go.Proofs.YthpgbmglgmjjhaaDoor
open Go Go.RowKit
set_option linter.unusedVariables false

theorem drew_below {P : Program} {f : FuncId} {args : Array Value} {w : World} {E : Ending}
    (h : Calls P f args w fun e w' => e = E ∧ ∃ n, w' = w.drewN n) : Calls P f args w fun e w' => e = E ∧ Below w.heap.size w w' :=
  h.mono fun _ _ ⟨he, n, hn⟩ => ⟨he, by rw [hn]; exact below_drewN (Below.refl _ _) n⟩
/-- A slice of structs and a truth, handed back in memory of the call's own. -/
def ListOut {α : Type} (w w' : World) (e : Ending) (sz : Nat) (row : α → List C) (r : List α × Bool) : Prop :=
  ∃ v f F, e = .returned (.tuple #[v, .bool r.2]) ∧ Own w' w.heap.size (f + 1) v (.sl sz r.1.length (r.1.flatMap row)) F ∧ F.Nodup ∧ Below w.heap.size w w'
theorem wsum_le {α : Type} {f : α → Nat} {c : Nat} (h : ∀ x, f x ≤ c) (l : List α) : wsum f l ≤ c * l.length := by
  induction l with
  | nil => exact Nat.zero_le _
  | cons a r ih => have := h a; rw [List.length_cons, Nat.mul_add, Nat.mul_one]; show f a + wsum f r ≤ _; omega
theorem ty.Label.cost_le (l : List ty.Label) : wsum ty.Label.cost l ≤ 2 * l.length := wsum_le (fun _ => Nat.le_refl _) l
namespace lab
theorem sort_len {l : List ty.Label} (h : l.length ≤ 1048576) : (sortF l).1.length ≤ 1048576 := by
  unfold sortF
  split
  · rw [sorted_length]; exact h
  · exact h
theorem twoS_is (o : Option ByteArray) : ∃ s b, twoS o = .tuple #[.string s, .bool b] := by
  cases o with
  | none => exact ⟨_, _, rfl⟩
  | some y => exact ⟨_, _, rfl⟩
end lab
end Go.Proofs.YthpgbmglgmjjhaaDoor
