/- impl.Suffixes. -/
import Derived.Test.YtiibldfkefihlaaDoorUnitM
namespace Go.Proofs.YtiibldfkefihlaaDoor.suf
open Go.ChangeShapes Go.WideShapes Go.ChangeAt Go.RowKit
set_option linter.unusedVariables false

theorem impl_any (w : World) :
    Calls Tryd.prog 19 #[] w fun e w' => ∃ v, e = .returned v ∧ w'.ownsRow w.heap.size 9 1 v 10 (scells unit.texts) ∧ Below w.heap.size w w' := by
  have h0 := World.ownsRow_lit (size := 1) (base := w.heap.size) (e := 9) w (scells unit.texts).toArray 10 (Nat.le_refl _) (by simp [maxLen]) rfl
  have Hown := Lib.hid h0
  clear h0
  go_enter Tryd.func19, Tryd.ntmps19
  go_wp2_with fail
  go_ret
  exact ⟨_, rfl, Hown.out, (Below.refl _ _).alloc (Nat.le_refl _) _⟩
end Go.Proofs.YtiibldfkefihlaaDoor.suf
