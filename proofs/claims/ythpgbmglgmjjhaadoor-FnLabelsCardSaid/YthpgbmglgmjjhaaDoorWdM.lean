/- Names, label keys and label values: plain. -/
import Derived.Test.YthpgbmglgmjjhaaDoorBase
namespace Go.Proofs.YthpgbmglgmjjhaaDoor.lab
open Go Go.RowKit
set_option linter.unusedVariables false

/-- A letter or a digit. -/
def isL (b : Int) : Bool := (decide (97 ≤ b) && decide (b ≤ 122)) || (decide (65 ≤ b) && decide (b ≤ 90)) || (decide (48 ≤ b) && decide (b ≤ 57))
/-- A byte of a name. -/
def nameB (b : Int) : Bool := (isL b && !(decide (65 ≤ b) && decide (b ≤ 90))) || b == 45
structure NameP (s : ByteArray) : Prop where
  lo : 1 ≤ s.size
  hi : s.size ≤ 20
  fst : at_ s 0 ≠ 45
  lst : at_ s (s.size - 1) ≠ 45
  all : ∀ i, i < s.size → nameB (at_ s i) = true
/-- A byte of a word that has the first k bytes of o within. -/
def acc (o : ByteArray) (b : Int) (k : Nat) : Bool := isL b || (List.range k).any (fun j => b == at_ o j)
theorem acc_zero (o : ByteArray) (b : Int) : acc o b 0 = isL b := by simp [acc]
theorem acc_succ (o : ByteArray) (b : Int) (k : Nat) : acc o b (k + 1) = (acc o b k || (b == at_ o k)) := by
  unfold acc
  rw [List.range_succ, List.any_append, ← Bool.or_assoc]
  simp
def wordB (o : ByteArray) (b : Int) : Bool := acc o b o.size
structure WordP (o s : ByteArray) : Prop where
  lo : 1 ≤ s.size
  fst : isL (at_ s 0) = true
  lst : isL (at_ s (s.size - 1)) = true
  all : ∀ i, i < s.size → wordB o (at_ s i) = true
def keyO : ByteArray := ⟨#[45, 95, 46, 47]⟩
def valO : ByteArray := ⟨#[45, 95, 46]⟩
def KeyP (s : ByteArray) : Prop := s.size ≤ 30 ∧ WordP keyO s
def ValP (s : ByteArray) : Prop := s.size = 0 ∨ (s.size ≤ 20 ∧ WordP valO s)
open Classical in
noncomputable def yes (p : Prop) : Bool := if p then true else false
theorem yes_t {p : Prop} (h : p) : yes p = true := by unfold yes; rw [if_pos h]
theorem yes_f {p : Prop} (h : ¬ p) : yes p = false := by unfold yes; rw [if_neg h]
theorem yes_iff {p : Prop} : yes p = true ↔ p := by
  by_cases h : p
  · rw [yes_t h]; simp [h]
  · rw [yes_f h]; simp [h]
end Go.Proofs.YthpgbmglgmjjhaaDoor.lab
