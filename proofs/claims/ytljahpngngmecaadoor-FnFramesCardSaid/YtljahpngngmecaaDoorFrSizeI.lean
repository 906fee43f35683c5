/- impl.FrameSize. -/
import Derived.Test.YtljahpngngmecaaDoorFrTextI
namespace Go.Proofs.YtljahpngngmecaaDoor.frame
open Go.ChangeShapes Go.WideShapes Go.ChangeAt Go.RowKit
open crc fixed
set_option linter.unusedVariables false

theorem impl_size (v : Int) (p : ByteArray) (w : World) (hp : p.size ≤ maxLen) :
    Calls Tryd.prog 13 #[frV v p] w fun e w' => e = .returned (.int .i64 ((frameF v p).size : Int)) ∧ Below w.heap.size w w' := by
  have HT := Lib.hid (fun w => impl_text v p w hp)
  generalize frameF v p = F at HT
  have Hb := Lib.hid (Held.box w v p)
  unfold frV at HT ⊢
  go_enter Tryd.func13, Tryd.ntmps13
  go_wp2_with fail
  refine (HT.out _).mono ?_
  rintro e w1 ⟨rfl, hb1⟩
  clear HT
  have Hb1 := Lib.hid (Hb.out.below hb1).1
  clear hb1 Hb
  go_wp2_with fail
  go_ret
  exact ⟨rfl, Hb1.out⟩
end Go.Proofs.YtljahpngngmecaaDoor.frame
