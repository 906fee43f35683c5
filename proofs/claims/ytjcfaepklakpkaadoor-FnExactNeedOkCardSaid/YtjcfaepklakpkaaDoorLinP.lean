/- LabelsLine: plain. -/
import Derived.Test.YtjcfaepklakpkaaDoorLabM
namespace Go.Proofs.YtjcfaepklakpkaaDoor.lab
open Go Go.RowKit ty
set_option linter.unusedVariables false

theorem cat_toList (a b : ByteArray) : (a ++ b).data.toList = a.data.toList ++ b.data.toList := by simp
theorem size_len (a : ByteArray) : a.data.toList.length = a.size := by rw [Array.length_toList]; rfl
theorem parts_len (a b c d : ByteArray) : b.size + d.size ≤ ((((a ++ b) ++ c) ++ d).data.toList).length := by
  simp only [cat_toList, List.length_append, ByteArray.size, Array.length_toList]
  omega
/-- One label more. -/
theorem line_more {l : List Label} {j : Nat} (hj : j < l.length) {s : ByteArray} (h : s.data.toList = joinB (l.take j)) :
    ((((if 0 < j then s ++ ⟨#[44]⟩ else s) ++ l[j].key) ++ ⟨#[61]⟩) ++ l[j].value).data.toList = joinB (l.take (j + 1)) := by
  rw [← List.take_append_getElem hj, joinB_snoc]
  by_cases h0 : 0 < j
  · have hne : l.take j ≠ [] := by
      intro e
      have := congrArg List.length e
      rw [List.length_take, List.length_nil] at this
      omega
    rw [if_pos h0, if_neg hne]
    simp only [cat_toList, h, pairB]
    simp
  · obtain rfl : j = 0 := by omega
    have he : s.data.toList = [] := by rw [h]; simp [joinB]
    simp only [if_neg h0, List.take_zero, if_true, cat_toList, he, pairB]
    simp
/-- Lengths of what is under way. -/
theorem join_len {l : List Label} (h : GoodTo l l.length) (h6 : l.length ≤ 6) : ∀ j, j ≤ l.length → (joinB (l.take j)).length ≤ 52 * j := by
  intro j
  induction j with
  | zero => intro _; simp [joinB]
  | succ j ih =>
    intro hj
    have hlt : j < l.length := hj
    have ih := ih (by omega)
    have hg := h j hlt hlt
    have h1 : l[j].key.size ≤ 30 := hg.1.1
    have h2 : l[j].value.size ≤ 20 := by
      rcases hg.2.1 with h | h
      · omega
      · exact h.1
    rw [← List.take_append_getElem hlt, joinB_snoc]
    have hp : (pairB l[j]).length = l[j].key.size + 1 + l[j].value.size := by
      unfold pairB
      rw [List.length_append, List.length_cons, size_len, size_len]
      omega
    split
    · rw [hp]; omega
    · rw [List.length_append, List.length_cons, hp]; omega
end Go.Proofs.YtjcfaepklakpkaaDoor.lab
