/- A text cut at each byte of one kind: plain. -/
import Derived.Test.YtjcfaepklakpkaaDoorBase
namespace Go.Proofs.YtjcfaepklakpkaaDoor.cut
open Go Go.RowKit
set_option linter.unusedVariables false

/-- Behind k bytes: where the open part begins, and the parts so far. The end of the text counts as the byte. -/
def cs (s : ByteArray) (c : Int) : Nat → Nat × List ByteArray
  | 0 => (0, [])
  | k + 1 => if k = s.size ∨ at_ s k = c then (k + 1, (cs s c k).2 ++ [s.extract (cs s c k).1 k]) else cs s c k
theorem cs_bd (s : ByteArray) (c : Int) (k : Nat) : (cs s c k).1 ≤ k ∧ (cs s c k).2.length ≤ k := by
  induction k with
  | zero => simp [cs]
  | succ k ih =>
    simp only [cs]
    split
    · refine ⟨Nat.le_refl _, ?_⟩
      simp; omega
    · omega
theorem cs_no {s : ByteArray} {c : Int} {k b : Nat} {l : List ByteArray} (h : cs s c k = (b, l)) (h1 : k < s.size) (h2 : at_ s k ≠ c) : cs s c (k + 1) = (b, l) := by
  simp only [cs]; rw [if_neg (by omega)]; exact h
theorem cs_add {s : ByteArray} {c : Int} {k b : Nat} {l : List ByteArray} (h : cs s c k = (b, l)) (h1 : k = s.size ∨ at_ s k = c) : cs s c (k + 1) = (k + 1, l ++ [s.extract b k]) := by
  simp only [cs]; rw [if_pos h1, h]
def cutF (s : ByteArray) (c : Int) : List ByteArray := (cs s c (s.size + 1)).2
theorem cut_le (s : ByteArray) (c : Int) : (cutF s c).length ≤ s.size + 1 := (cs_bd s c _).2
/-- No part is longer than the text. -/
theorem cs_sizes (s : ByteArray) (c : Int) (k : Nat) : ∀ x ∈ (cs s c k).2, x.size ≤ s.size := by
  induction k with
  | zero => intro x hx; simp [cs] at hx
  | succ k ih =>
    intro x hx
    simp only [cs] at hx
    split at hx
    · rcases List.mem_append.1 hx with h | h
      · exact ih x h
      · rw [List.mem_singleton] at h
        subst h
        rw [ByteArray.size_extract]
        omega
    · exact ih x hx
theorem cut_sizes (s : ByteArray) (c : Int) : ∀ x ∈ cutF s c, x.size ≤ s.size := cs_sizes s c _
/-- What a function that makes a list of strings hands back. -/
def OutS (e0 : TypeId) (w : World) (l : List ByteArray) (e : Ending) (w' : World) : Prop := ∃ v, e = .returned v ∧ w'.ownsRow w.heap.size e0 1 v l.length (scells l) ∧ Below w.heap.size w w'
end Go.Proofs.YtjcfaepklakpkaaDoor.cut
