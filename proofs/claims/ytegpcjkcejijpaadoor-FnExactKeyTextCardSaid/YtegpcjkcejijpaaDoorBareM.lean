/- BareLine, plain: where the comment of a line begins. -/
import Derived.Test.YtegpcjkcejijpaaDoorLineM
namespace Go.Proofs.YtegpcjkcejijpaaDoor.line
open Go.ChangeShapes Go.WideShapes Go.ChangeAt Go.RowKit
set_option linter.unusedVariables false

/-- Here a comment or a quoted string may begin. -/
def fresh (s : ByteArray) (i : Nat) : Prop := i = 0 ∨ at_ s (i - 1) = 32
instance (s : ByteArray) (i : Nat) : Decidable (fresh s i) := by unfold fresh; exact inferInstance
/-- Where the comment begins, read from byte i on (q: inside a quoted string). -/
def cmt (s : ByteArray) (i : Nat) (q : Bool) : Nat :=
  if h : i < s.size then
    if q = true then
      if at_ s i = 92 then cmt s (i + 2) true
      else if at_ s i = 34 then cmt s (i + 1) false
      else cmt s (i + 1) true
    else if fresh s i ∧ at_ s i = 34 then cmt s (i + 1) true
    else if fresh s i ∧ at_ s i = 35 then i
    else cmt s (i + 1) false
  else s.size
termination_by s.size - i
theorem cmt_out {s : ByteArray} {i : Nat} {q : Bool} (h : s.size ≤ i) : cmt s i q = s.size := by
  rw [cmt, dif_neg (by omega)]
theorem cmt_skip {s : ByteArray} {i : Nat} (h : i < s.size) (h1 : at_ s i = 92) : cmt s i true = cmt s (i + 2) true := by
  rw [cmt, dif_pos h, if_pos rfl, if_pos h1]
theorem cmt_shut {s : ByteArray} {i : Nat} (h : i < s.size) (h1 : at_ s i = 34) : cmt s i true = cmt s (i + 1) false := by
  rw [cmt, dif_pos h, if_pos rfl, if_neg (by omega), if_pos h1]
theorem cmt_in {s : ByteArray} {i : Nat} (h : i < s.size) (h1 : at_ s i ≠ 92) (h2 : at_ s i ≠ 34) : cmt s i true = cmt s (i + 1) true := by
  rw [cmt, dif_pos h, if_pos rfl, if_neg h1, if_neg h2]
theorem cmt_open {s : ByteArray} {i : Nat} (h : i < s.size) (hf : fresh s i) (h1 : at_ s i = 34) : cmt s i false = cmt s (i + 1) true := by
  rw [cmt, dif_pos h, if_neg (by decide), if_pos ⟨hf, h1⟩]
theorem cmt_here {s : ByteArray} {i : Nat} (h : i < s.size) (hf : fresh s i) (h1 : at_ s i = 35) : cmt s i false = i := by
  rw [cmt, dif_pos h, if_neg (by decide), if_neg (by omega), if_pos ⟨hf, h1⟩]
theorem cmt_on {s : ByteArray} {i : Nat} (h : i < s.size) (h1 : ¬ (fresh s i ∧ at_ s i = 34)) (h2 : ¬ (fresh s i ∧ at_ s i = 35)) : cmt s i false = cmt s (i + 1) false := by
  rw [cmt, dif_pos h, if_neg (by decide), if_neg h1, if_neg h2]
theorem cmt_le (s : ByteArray) : ∀ (k i : Nat) (q : Bool), s.size - i ≤ k → cmt s i q ≤ s.size
  | 0, i, q, h => by rw [cmt_out (by omega)]; exact Nat.le_refl _
  | k + 1, i, q, h => by
    by_cases hi : i < s.size
    · rw [cmt, dif_pos hi]
      split
      · split
        · exact cmt_le s k _ _ (by omega)
        · split
          · exact cmt_le s k _ _ (by omega)
          · exact cmt_le s k _ _ (by omega)
      · split
        · exact cmt_le s k _ _ (by omega)
        · split
          · omega
          · exact cmt_le s k _ _ (by omega)
    · rw [cmt_out (by omega)]; exact Nat.le_refl _
/-- The end of a quoted string, read from byte i on; or an offset behind the line. -/
def cq (s : ByteArray) (i : Nat) : Nat :=
  if h : i < s.size ∧ at_ s i ≠ 34 then
    if at_ s i = 92 then cq s (i + 2) else cq s (i + 1)
  else i
termination_by s.size - i
theorem cq_end {s : ByteArray} {i : Nat} (h : s.size ≤ i ∨ at_ s i = 34) : cq s i = i := by
  rw [cq, dif_neg]
  rintro ⟨h1, h2⟩
  rcases h with h | h
  · omega
  · exact h2 h
theorem cq_skip {s : ByteArray} {i : Nat} (h : i < s.size) (h1 : at_ s i = 92) : cq s i = cq s (i + 2) := by
  rw [cq, dif_pos ⟨h, by omega⟩, if_pos h1]
theorem cq_on {s : ByteArray} {i : Nat} (h : i < s.size) (h1 : at_ s i ≠ 92) (h2 : at_ s i ≠ 34) : cq s i = cq s (i + 1) := by
  rw [cq, dif_pos ⟨h, h2⟩, if_neg h1]
theorem cq_le (s : ByteArray) : ∀ (k i : Nat), s.size - i ≤ k → i ≤ s.size + 1 → i ≤ cq s i ∧ cq s i ≤ s.size + 1
  | 0, i, h, h1 => by rw [cq_end (.inl (by omega))]; omega
  | k + 1, i, h, h1 => by
    by_cases c : i < s.size ∧ at_ s i ≠ 34
    · by_cases c2 : at_ s i = 92
      · rw [cq_skip c.1 c2]
        have := cq_le s k (i + 2) (by omega) (by omega)
        omega
      · rw [cq_on c.1 c2 c.2]
        have := cq_le s k (i + 1) (by omega) (by omega)
        omega
    · rw [cq, dif_neg c]; omega
theorem cmt_cq (s : ByteArray) : ∀ (k i : Nat), s.size - i ≤ k → cmt s i true = cmt s (cq s i + 1) false
  | 0, i, h => by rw [cq_end (.inl (by omega)), cmt_out (by omega), cmt_out (by omega)]
  | k + 1, i, h => by
    by_cases c : i < s.size ∧ at_ s i ≠ 34
    · by_cases c2 : at_ s i = 92
      · rw [cq_skip c.1 c2, cmt_skip c.1 c2]
        exact cmt_cq s k (i + 2) (by omega)
      · rw [cq_on c.1 c2 c.2, cmt_in c.1 c2 c.2]
        exact cmt_cq s k (i + 1) (by omega)
    · by_cases hi : i < s.size
      · have h34 : at_ s i = 34 := Classical.byContradiction fun e => c ⟨hi, e⟩
        rw [cq_end (.inr h34), cmt_shut hi h34]
      · rw [cq_end (.inl (by omega)), cmt_out (by omega), cmt_out (by omega)]
def com (s : ByteArray) : Nat := cmt s 0 false
theorem com_le (s : ByteArray) : com s ≤ s.size := cmt_le s _ _ _ (Nat.le_refl _)
/-- The line without its comment and the spaces ahead of it. -/
def bare (s : ByteArray) : ByteArray := s.extract 0 (rt s (com s))
theorem bare_le (s : ByteArray) : rt s (com s) ≤ s.size := Nat.le_trans (rt_le _ _) (com_le s)
theorem bare_size (s : ByteArray) : (bare s).size = rt s (com s) := by unfold bare; rw [size_ex _ _ _ (bare_le s)]; omega
end Go.Proofs.YtegpcjkcejijpaaDoor.line
