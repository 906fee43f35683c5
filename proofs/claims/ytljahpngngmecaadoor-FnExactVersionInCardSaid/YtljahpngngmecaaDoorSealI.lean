/- impl.Sealed, impl.Unsealed. -/
import Derived.Test.YtljahpngngmecaaDoorSumI
import Derived.Test.YtljahpngngmecaaDoorFixI
namespace Go.Proofs.YtljahpngngmecaaDoor.crc
open Go.ChangeShapes Go.WideShapes Go.ChangeAt Go.RowKit
set_option linter.unusedVariables false

theorem impl_seal (s : ByteArray) (w : World) (hs : s.size ≤ maxLen) :
    Calls Tryd.prog 27 #[.string s] w fun e w' => e = .returned (.tuple #[.string (sealF s).1, .bool (sealF s).2]) ∧ Below w.heap.size w w' := by
  have hm := hs
  unfold maxLen at hm
  by_cases h : s.size ≤ 20000
  · have HM := Lib.hid (fun w => impl_sum s w hs)
    have HX := Lib.hid (fun w => fixed.impl_any (sumF s) 4 w (by have := sumF_bd s; omega))
    have h4 := fix_sum_size s
    rw [seal_yes h]
    generalize hF : sealB s = F
    unfold sealB at hF
    generalize fixed.fixF (sumF s) 4 = v at HX h4 hF
    generalize sumF s = n at HM HX
    have HF := Lib.hid hF
    have hsum : ¬ 9223372036854775807 < s.size + v.size := by omega
    clear hF
    go_enter Tryd.func27, Tryd.ntmps27
    go_wp2_with fail
    refine (HM.out _).mono ?_
    rintro e w1 ⟨rfl, hb1⟩
    clear HM
    go_wp2_with fail
    refine (HX.out _).mono ?_
    rintro e w2 ⟨rfl, hb2⟩
    clear HX
    have Hb := Lib.hid (hb1.trans (hb2.mono hb1.size))
    clear hb1 hb2
    go_wp2_with fail
    go_ret2
    exact ⟨by rw [← HF.out]; rfl, Hb.out⟩
  · rw [seal_no h]
    go_enter Tryd.func27, Tryd.ntmps27
    go_wp2_with fail
    go_ret2
    exact ⟨rfl, Below.refl _ _⟩
end Go.Proofs.YtljahpngngmecaaDoor.crc
