/- The law's own comparison of two tokens: eqSign, at equal ones. -/
import Derived.Test.YtamlkieeiflgkaaDoorSignB
namespace Go.Proofs.YtamlkieeiflgkaaDoor.lawSign
open Go.ChangeShapes Go.WideShapes Go.ChangeAt Go.RowKit
open sign
set_option linter.unusedVariables false

theorem eq_yes (g : Sg) (w : World) :
    Calls Tryd.prog 18 #[sgV g, sgV g] w fun e w' => e = .returned (.bool true) ∧ Below w.heap.size w w' := by
  obtain ⟨k, t, n, a⟩ := g
  unfold sgV sgC
  simp only
  have Hb : Hid (∀ (a b : Obj), Below w.heap.size w ((w.alloc a).alloc b)) := fun a b => ((Below.refl _ _).alloc (Nat.le_refl _) a).alloc (by simp) b
  go_enter Tryd.func18, Tryd.ntmps18
  go_wp2_with fail
  go_ret
  exact ⟨rfl, Hb.out _ _⟩
end Go.Proofs.YtamlkieeiflgkaaDoor.lawSign
