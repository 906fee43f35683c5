/- A comparison by a number that goes by an order: plain. -/
import Derived.Test.YtdgedclpaplgoaaGreatDoorGA0
namespace Go.Proofs.YtdgedclpaplgoaaGreatDoor
open Go Go.RowKit
set_option linter.unusedVariables false
/-- A comparison by a number goes by an order. -/
def CmpWay {α : Type} (c : α → α → Int) (lt : α → α → Bool) : Prop := ∀ a b, (c a b = 0 ∧ a = b) ∨ (c a b < 0 ∧ a ≠ b ∧ lt a b = true) ∨ (0 < c a b ∧ a ≠ b ∧ lt a b = false)
section
variable {α : Type} {c : α → α → Int} {lt : α → α → Bool}
theorem CmpWay.less (h : CmpWay c lt) (o : dedup.Ord lt) (a b : α) : decide (c a b < 0) = lt a b := by
  rcases h a b with ⟨h1, h2⟩ | ⟨h1, _, h3⟩ | ⟨h1, _, h3⟩
  · subst h2; rw [h1, o.irr]; rfl
  · rw [h3]; exact decide_eq_true h1
  · rw [h3]; exact decide_eq_false (by omega)
theorem CmpWay.zero (h : CmpWay c lt) (a b : α) : (c a b == 0) = lab.yes (a = b) := by
  rcases h a b with ⟨h1, h2⟩ | ⟨h1, h2, h3⟩ | ⟨h1, h2, h3⟩
  · rw [lab.yes_t h2, h1]; rfl
  · rw [lab.yes_f h2]; exact beq_eq_false_iff_ne.2 (by omega)
  · rw [lab.yes_f h2]; exact beq_eq_false_iff_ne.2 (by omega)
theorem ord_nt (o : dedup.Ord lt) (a b c : α) (h1 : lt a b = false) (h2 : lt b c = false) : lt a c = false := by
  cases h : lt a c with
  | false => rfl
  | true =>
    exfalso
    by_cases hba : lt b a = true
    · have := o.tr b a c hba h
      rw [h2] at this; cases this
    · have hba : lt b a = false := by simpa using hba
      rw [o.tot a b h1 hba, h2] at h
      cases h
end
end Go.Proofs.YtdgedclpaplgoaaGreatDoor
