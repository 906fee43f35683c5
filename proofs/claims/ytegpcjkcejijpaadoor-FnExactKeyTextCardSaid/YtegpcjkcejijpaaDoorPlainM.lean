/- What may be written without quotes; a key and the rest: plain. -/
import Derived.Test.YtegpcjkcejijpaaDoorKeyM
import Derived.Test.YtegpcjkcejijpaaDoorReadQM
namespace Go.Proofs.YtegpcjkcejijpaaDoor.line
open Go.ChangeShapes Go.WideShapes Go.ChangeAt Go.RowKit
set_option linter.unusedVariables false

def firsts : List UInt8 := [45, 63, 58, 44, 91, 93, 123, 125, 38, 42, 33, 124, 62, 39, 37, 64, 96]
/-- A byte that no plain text holds. -/
def odd (x : Int) : Prop := x < 32 ∨ x = 34 ∨ x = 35 ∨ x = 92
instance (x : Int) : Decidable (odd x) := by unfold odd; exact inferInstance
def figB (x : Int) : Prop := 48 ≤ x ∧ x ≤ 57
def wordsL : List (List UInt8) := [[110, 117, 108, 108], [126], [116, 114, 117, 101], [102, 97, 108, 115, 101]]
/-- Digits alone. -/
def Figs (s : ByteArray) : Prop := ∀ k, k < s.size → figB (at_ s k)
noncomputable instance (s : ByteArray) : Decidable (Figs s) := Classical.propDecidable _
structure Plain (s : ByteArray) : Prop where
  pos : 0 < s.size
  le : s.size ≤ 400
  utf : (rune.runesF s).isSome = true
  bl : at_ s 0 ≠ 32
  br : at_ s (s.size - 1) ≠ 32
  first : ∀ b ∈ firsts, at_ s 0 ≠ (b.toNat : Int)
  all : ∀ k, k < s.size → ¬ odd (at_ s k) ∧ ¬ ends s k
  figs : ¬ Figs s
  word : s.data.toList ∉ wordsL
noncomputable instance (s : ByteArray) : Decidable (Plain s) := Classical.propDecidable _
noncomputable def plainF (s : ByteArray) : Bool := decide (Plain s)
theorem plain_yes {s : ByteArray} (h : Plain s) : plainF s = true := by unfold plainF; exact decide_eq_true h
theorem plain_no {s : ByteArray} (h : ¬ Plain s) : plainF s = false := by unfold plainF; exact decide_eq_false h
theorem plain_iff {s : ByteArray} : plainF s = true ↔ Plain s := by unfold plainF; exact decide_eq_true_iff

/-- The key of a line and where it ends: -1: there is none. -/
noncomputable def keyIn (s : ByteArray) : ByteArray × Int :=
  if 0 < s.size ∧ at_ s 0 = 34 then readq.readF s 0
  else if 0 ≤ ke s ∧ plainF (s.extract 0 (ke s).toNat) = true then (s.extract 0 (ke s).toNat, ke s)
  else (⟨#[]⟩, -1)
theorem keyIn_bd (s : ByteArray) : keyIn s = (⟨#[]⟩, -1) ∨ ∃ q : Nat, (keyIn s).2 = (q : Int) ∧ q ≤ s.size := by
  unfold keyIn
  split
  · rcases readq.readF_bd s 0 with h | ⟨q, h1, _, h2⟩
    · exact .inl h
    · exact .inr ⟨q, h1, h2⟩
  · split
    · next h =>
      rcases ke_cases s with ⟨n, h1, h2, _⟩ | ⟨h1, _⟩
      · exact .inr ⟨n, h1, by have := h2.1; omega⟩
      · omega
    · exact .inl rfl
/-- The key, the rest, and whether there is a key. -/
noncomputable def keyOf (s : ByteArray) : ByteArray × ByteArray × Bool :=
  if 0 ≤ (keyIn s).2 ∧ ends s (keyIn s).2.toNat then ((keyIn s).1, trimL (s.extract ((keyIn s).2.toNat + 1) s.size), true)
  else (⟨#[]⟩, ⟨#[]⟩, false)
/-- An item of a list: its text, how many bytes stand ahead of it, whether it is one. -/
def itemOf (s : ByteArray) : ByteArray × Int × Bool :=
  if s.data.toList = [45] then (⟨#[]⟩, 0, true)
  else if 1 < s.size ∧ at_ s 0 = 45 ∧ at_ s 1 = 32 then (s.extract (1 + ind (s.extract 1 s.size)) s.size, ((1 + ind (s.extract 1 s.size) : Nat) : Int), true)
  else (⟨#[]⟩, 0, false)
end Go.Proofs.YtegpcjkcejijpaaDoor.line
