/- A list of trees that came in (type []laws.Tree), opened. -/
import Derived.Test.YtmldigfghiofkaaOpenTree
namespace Go.Proofs.Ytmldigfghiofkaa.tree
open Go.ChangeShapes Go.WideShapes Go.ChangeAt Go.RowKit
set_option linter.unusedVariables false
section
variable {H : Type} {enc : TypeId × Value → H} {w : World} {base : Nat} {sp : Nat → Bool} {held : Bool}
theorem open_law_list {r : Reach} {b0 : Nat} {v : Value} {d : DataW H} {ps : List MemPlace}
    (hval : Value.okWide Try.prog w r b0 23 v) (hd : DataW.Trod enc Try.prog w base sp held 23 v d ps) : ∃ (kids : List T) (f : Nat) (A : Option Addr) (c : Nat), v = .slice A kids.length c ∧ Lies w f v (.sl 6 kids.length (rows kids)) := by
  obtain ⟨A, n, c, rfl⟩ := okWide_slice Try.underlying23 hval
  obtain ⟨fuel, hf⟩ := hd
  obtain ⟨v', l, h1, h2⟩ := lies_slice (α := T) row Try.underlying23 cells_tree (by decide) row_length (fun n cs' y _ hy => lies_tree n cs' y hy) hf
  have e : v' = .slice A n c := by simpa [Value.cells] using h1.symm
  subst e
  obtain ⟨A', c', e2, h3, h4, h5, h6⟩ := h2.sl
  injection e2 with e3 e4 e5
  subst e4
  refine ⟨l, fuel, A, c, rfl, ?_⟩
  rw [rows_flat]
  exact h2
end
end Go.Proofs.Ytmldigfghiofkaa.tree
