/- The law's own comparison of two frames: eqFrame, at equal ones. -/
import Derived.Test.YtljahpngngmecaaDoorFrOkS
namespace Go.Proofs.YtljahpngngmecaaDoor.lawFrame
open Go.ChangeShapes Go.WideShapes Go.ChangeAt Go.RowKit
open frame
set_option linter.unusedVariables false

theorem eq_yes (v : Int) (p : ByteArray) (w : World) :
    Calls Tryd.prog 21 #[frV v p, frV v p] w fun e w' => e = .returned (.bool true) ∧ Below w.heap.size w w' := by
  unfold frV
  have Hb : Hid (∀ (a b : Obj), Below w.heap.size w ((w.alloc a).alloc b)) := fun a b => ((Below.refl _ _).alloc (Nat.le_refl _) a).alloc (by simp) b
  go_enter Tryd.func21, Tryd.ntmps21
  go_wp2_with fail
  go_ret
  exact ⟨rfl, Hb.out _ _⟩
end Go.Proofs.YtljahpngngmecaaDoor.lawFrame
