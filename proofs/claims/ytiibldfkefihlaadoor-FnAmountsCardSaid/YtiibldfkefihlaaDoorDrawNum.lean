/- Drawn numbers: l02Num. -/
import Derived.Test.YtiibldfkefihlaaDoorDrawPick
namespace Go.Proofs.YtiibldfkefihlaaDoor.draw
open Go.ChangeShapes Go.WideShapes Go.ChangeAt Go.RowKit
set_option linter.unusedVariables false

theorem num_any (c : Nat) (A : Option Addr) (len cap : Nat) (z : Nat → Int) (w : World) (hc : Cur w c A len cap z) :
    Calls Tryd.prog 26 #[.pointer (some ⟨c, 0, none⟩)] w (Got I64 c A len cap z w) := by
  have H5 := Lib.hid (below_any c A len cap z 5 w hc (by decide) (by decide))
  clear hc
  go_enter Tryd.func26, Tryd.ntmps26
  go_wp2_with fail
  refine H5.out.mono ?_
  rintro e w1 ⟨x, hx, rfl, hc1, hg1⟩
  clear H5
  by_cases h0 : x = 0
  · subst h0
    have hlt := hc1.lt
    have HP := Lib.hid (pick_any c A len cap z w1.heap.size 10 10 [0, 1, -1, 9223372036854775807, 9223372036854775806, 4611686018427387904, 4611686018427387903, -9223372036854775808, 3037000499, 3037000500] _ (cur_alloc hc1 _) (by decide) (by decide) rfl hlt (heap_alloc_new w1 _))
    have Hg1 := Lib.hid hg1
    have Hc1 := Lib.hid hc1
    clear hg1 hc1 hlt hx
    go_wp2_with fail
    refine HP.out.mono ?_
    rintro e w2 ⟨x, hx, rfl, hc2, hg2⟩
    have hI : Hid (I64 x) := by
      unfold Hid I64
      simp at hx
      omega
    have Hc2 := Lib.hid hc2
    have Hg2 := Lib.hid (grown_trans Hg1.out (grown_trans (grown_alloc _ _ _) hg2))
    clear hx hc2 hg2 HP
    go_wp2_with fail
    go_ret
    exact ⟨x, hI.out, rfl, Hc2.out, Hg2.out⟩
  have e0 : (x == 0) = false := beq_eq_false_iff_ne.2 h0
  by_cases h1 : x = 1
  · subst h1
    have HA := Lib.hid (below_any c A len cap z 1000000000 w1 hc1 (by decide) (by decide))
    have Hg1 := Lib.hid hg1
    clear hg1 hc1
    go_wp2_with fail
    refine HA.out.mono ?_
    rintro e w2 ⟨a, ha, rfl, hc2, hg2⟩
    have HB := Lib.hid (below_any c A len cap z 1000000000 w2 hc2 (by decide) (by decide))
    have Hg2 := Lib.hid (grown_trans Hg1.out hg2)
    clear hg2 hc2 HA Hg1
    go_wp2_with fail
    refine HB.out.mono ?_
    rintro e w3 ⟨b, hb, rfl, hc3, hg3⟩
    have Hg3 := Lib.hid (grown_trans Hg2.out hg3)
    have Hc3 := Lib.hid hc3
    clear hg3 hc3 HB Hg2
    have hp : 0 ≤ a * (1 + b) ∧ a * (1 + b) ≤ 1000000000 * 1000000000 :=
      ⟨Int.mul_nonneg ha.1 (by omega), Int.mul_le_mul (by omega) (by omega) (by omega) (by decide)⟩
    have hI : Hid (I64 (a * (1 + b))) := by unfold Hid I64; omega
    go_wp2_with fail
    go_ret
    exact ⟨_, hI.out, rfl, Hc3.out, Hg3.out⟩
  have e1 : (x == 1) = false := beq_eq_false_iff_ne.2 h1
  have HA := Lib.hid (below_any c A len cap z 5000 w1 hc1 (by decide) (by decide))
  have Hg1 := Lib.hid hg1
  clear hg1 hc1
  go_wp2_with fail
  refine HA.out.mono ?_
  rintro e w2 ⟨a, ha, rfl, hc2, hg2⟩
  have Hg2 := Lib.hid (grown_trans Hg1.out hg2)
  have Hc2 := Lib.hid hc2
  have hI : Hid (I64 a) := by unfold Hid I64; omega
  clear hg2 hc2 HA Hg1
  go_wp2_with fail
  go_ret
  exact ⟨_, hI.out, rfl, Hc2.out, Hg2.out⟩
end Go.Proofs.YtiibldfkefihlaaDoor.draw
