/- []string as a slice of elements of one cell: plain. -/
import Derived.Test.YtjcfaepklakpkaaDoorEl
import Derived.Test.YtjcfaepklakpkaaDoorMarkM
namespace Go.Proofs.YtjcfaepklakpkaaDoor.ty.Str
open Go Go.RowKit
set_option linter.unusedVariables false

def row (s : ByteArray) : List C := [.str s]
theorem row_length (s : ByteArray) : (row s).length = 1 := rfl
def wt (s : ByteArray) : Nat := s.size
def cost (_ : ByteArray) : Nat := 1
def mark (_ : ByteArray) (k : Int) : ByteArray := lawMark.mt k
theorem flat (l : List ByteArray) : l.flatMap row = l.map C.str := by
  induction l with
  | nil => rfl
  | cons a r ih => rw [List.flatMap_cons, ih]; rfl
theorem opened {w : World} {f : Nat} {v : Value} {l : List ByteArray} (h : Lies w f v (.sl 1 l.length (l.flatMap row))) : ∃ A c, v = .slice A l.length c ∧ l.length ≤ c ∧ c ≤ maxLen ∧ Rd w A l.length (scells l) ∧ ∀ x ∈ l, x.size ≤ maxLen := by
  rw [flat] at h
  obtain ⟨A, c, rfl, h1, h2, _, f', rfl, h3⟩ := h.sl
  refine ⟨A, c, rfl, h1, h2, ⟨by rw [scells_length], fun hn => ?_⟩, fun x hx => ?_⟩
  · obtain ⟨g, o, rfl, hg, hc⟩ := h3 hn
    refine ⟨g, o, rfl, hg, fun j hj u hu => ?_⟩
    rw [scells_get l j hj] at hu
    injection hu with hu
    obtain ⟨u', hu', hl⟩ := hc j (.str l[j]) (by simp [hj])
    rw [hl.str.1] at hu'
    rw [hu', ← hu]
  · obtain ⟨i, hi, rfl⟩ := List.getElem_of_mem hx
    obtain ⟨g, o, rfl, hg, hc⟩ := h3 (by omega)
    obtain ⟨u', hu', hl⟩ := hc i (.str l[i]) (by simp [hi])
    exact hl.str.2
theorem cost_sum (l : List ByteArray) : wsum cost l = l.length := by
  unfold wsum
  induction l with
  | nil => rfl
  | cons a r ih => rw [List.map_cons, List.sum_cons, ih, List.length_cons]; simp only [cost]; omega
theorem marks : ∀ (l : List ByteArray) (k : Int), mks mark cost l k = (List.range l.length).map fun (j : Nat) => lawMark.mt (k + (j : Int))
  | [], k => rfl
  | x :: r, k => by
    rw [mks, marks r, List.length_cons, List.range_succ_eq_map, List.map_cons, List.map_map]
    simp only [mark, cost, Int.natCast_zero, Int.add_zero]
    congr 1
    refine List.map_congr_left fun j _ => ?_
    simp only [Function.comp]
    congr 1
    omega
end Go.Proofs.YtjcfaepklakpkaaDoor.ty.Str
