/- Lists of labels: what a search gives, plain; two lists the same. -/
import Derived.Test.YtjcfaepklakpkaaDoorLabM
namespace Go.Proofs.YtjcfaepklakpkaaDoor.lab
open Go Go.RowKit ty
set_option linter.unusedVariables false

theorem same_yes {a b : ByteArray} (h : a = b) : (a.toList == b.toList) = true := by subst h; simp
theorem same_no {a b : ByteArray} (h : ¬ a = b) : (a.toList == b.toList) = false := by
  rw [beq_eq_false_iff_ne, ByteArray.toList_eq, ByteArray.toList_eq]
  exact fun e => h (by apply ByteArray.ext; exact Array.ext' e)
def twoS (o : Option ByteArray) : Value := match o with
  | some y => .tuple #[.string y, .bool true]
  | none => .tuple #[.string ⟨#[]⟩, .bool false]
theorem at_none' {l : List Label} {key : ByteArray} (h : ∀ j (hj : j < l.length), l[j].key ≠ key) : atF l key = none :=
  atF_none fun x hx => by
    obtain ⟨i, hi, rfl⟩ := List.getElem_of_mem hx
    exact h i hi
/-- Two lists the same, as far as k. -/
def SameTo (a b : List Label) (k : Nat) : Prop := ∀ i (h1 : i < a.length) (h2 : i < b.length), i < k → a[i].key = b[i].key ∧ a[i].value = b[i].value
def SameP (a b : List Label) : Prop := a.length = b.length ∧ SameTo a b a.length
theorem sameP_iff {a b : List Label} : SameP a b ↔ a = b := by
  constructor
  · rintro ⟨h1, h2⟩
    refine List.ext_getElem h1 fun i i1 i2 => ?_
    obtain ⟨e1, e2⟩ := h2 i i1 i2 i1
    cases hx : a[i]
    cases hy : b[i]
    rw [hx, hy] at e1 e2
    simp only at e1 e2
    rw [e1, e2]
  · rintro rfl
    exact ⟨rfl, fun i _ _ _ => ⟨rfl, rfl⟩⟩
end Go.Proofs.YtjcfaepklakpkaaDoor.lab
