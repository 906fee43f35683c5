/- laws.Tolerance that came in as a struct, opened. As XOpNeed. -/
import Derived.Test.YtpadpiibiocabaaDoorOpToleranceS
namespace Go.Proofs.YtpadpiibiocabaaDoor.ty
open Go.ChangeShapes Go.WideShapes Go.ChangeAt Go.RowKit
set_option linter.unusedVariables false

section
variable {H : Type} {enc : TypeId × Value → H} {w : World} {base : Nat} {sp : Nat → Bool} {held : Bool}
set_option maxRecDepth 100000 in
theorem open_Tolerance {r : Reach} {b0 : Nat} {v : Value} {d : DataW H} {ps : List MemPlace}
    (hval : Value.okWide Tryd.prog w r b0 47 v) (hd : DataW.Trod enc Tryd.prog w base sp held 47 v d ps) : ∃ (t : Tolerance) (f : Nat) (vs : List Value), v = .agg vs.toArray ∧ LiesS w f vs t.row := by
  obtain ⟨cs, rfl, hsz⟩ := okWide_struct Tryd.underlying47 hval
  obtain ⟨fuel, hf⟩ := hd
  obtain ⟨l⟩ := cs
  obtain ⟨t, ht⟩ := trodTolerance fuel _ _ hf
  exact ⟨t, fuel, l, rfl, by simpa [Value.cells] using ht⟩
end
end Go.Proofs.YtpadpiibiocabaaDoor.ty
