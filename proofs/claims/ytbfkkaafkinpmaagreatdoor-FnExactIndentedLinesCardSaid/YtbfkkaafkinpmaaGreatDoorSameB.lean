/- Two strings compared, as the walk asks it. -/
import Derived.Test.YtbfkkaafkinpmaaGreatDoorGTree
namespace Go.Proofs.YtbfkkaafkinpmaaGreatDoor.tree
open Go Go.RowKit
theorem same_yes {a b : ByteArray} (h : a = b) : (a.toList == b.toList) = true := by subst h; simp
theorem same_no {a b : ByteArray} (h : ¬ a = b) : (a.toList == b.toList) = false := by
  rw [beq_eq_false_iff_ne, ByteArray.toList_eq, ByteArray.toList_eq]
  exact fun e => h (by apply ByteArray.ext; exact Array.ext' e)
theorem same_yes' {a b : ByteArray} (h : a = b) : (b.toList == a.toList) = true := by rw [h]; simp
theorem same_no' {a b : ByteArray} (h : ¬ a = b) : (b.toList == a.toList) = false := by
  have := same_no h
  simp only [beq_eq_false_iff_ne] at this ⊢
  exact fun e => this e.symm
end Go.Proofs.YtbfkkaafkinpmaaGreatDoor.tree
