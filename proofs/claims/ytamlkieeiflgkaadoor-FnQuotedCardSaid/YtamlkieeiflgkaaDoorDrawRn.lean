/- Drawn numbers of characters: l07Rune. -/
import Derived.Test.YtamlkieeiflgkaaDoorDrawPick
import Derived.Test.YtamlkieeiflgkaaDoorDrawOwn
namespace Go.Proofs.YtamlkieeiflgkaaDoor.draw
open Go.ChangeShapes Go.WideShapes Go.ChangeAt Go.RowKit
set_option linter.unusedVariables false

theorem rune_any (c : Nat) (A : Option Addr) (len cap : Nat) (z : Nat → Int) (w : World) (hc : Cur w c A len cap z) :
    Calls Tryd.prog 93 #[.pointer (some ⟨c, 0, none⟩)] w (Got I64 c A len cap z w) := by
  have H5 := Lib.hid (below_any c A len cap z 5 w hc (by decide) (by decide))
  clear hc
  go_enter Tryd.func93, Tryd.ntmps93
  go_wp2_with fail
  refine H5.out.mono ?_
  rintro e w1 ⟨x, hx, rfl, hc1, hg1⟩
  clear H5
  by_cases h0 : x = 0
  · subst h0
    have hlt := hc1.lt
    have HP := Lib.hid (pick_any c A len cap z w1.heap.size 22 22 [0, 9, 10, 31, 32, 34, 92, 126, 127, 128, 2047, 2048, 55295, 55296, 57343, 57344, 65533, 65535, 65536, 1114111, 1114112, -1] _ (cur_alloc hc1 _) (by decide) (by decide) rfl hlt (heap_alloc_new w1 _))
    have Hg1 := Lib.hid hg1
    have Hc1 := Lib.hid hc1
    clear hg1 hc1 hlt hx
    go_wp2_with fail
    refine HP.out.mono ?_
    rintro e w2 ⟨x, hx, rfl, hc2, hg2⟩
    have hI : Hid (I64 x) := by
      unfold Hid I64
      simp at hx
      omega
    have Hc2 := Lib.hid hc2
    have Hg2 := Lib.hid (grown_trans Hg1.out (grown_trans (grown_alloc _ _ _) hg2))
    clear hx hc2 hg2 HP
    go_wp2_with fail
    go_ret
    exact ⟨x, hI.out, rfl, Hc2.out, Hg2.out⟩
  have e0 : (x == 0) = false := beq_eq_false_iff_ne.2 h0
  by_cases h1 : x = 1
  · subst h1
    have HA := Lib.hid (below_any c A len cap z 1114112 w1 hc1 (by decide) (by decide))
    have Hg1 := Lib.hid hg1
    clear hg1 hc1
    go_wp2_with fail
    refine HA.out.mono ?_
    rintro e w2 ⟨a, ha, rfl, hc2, hg2⟩
    have Hg2 := Lib.hid (grown_trans Hg1.out hg2)
    have Hc2 := Lib.hid hc2
    have hI : Hid (I64 a) := by unfold Hid I64; omega
    clear hg2 hc2 HA Hg1
    go_wp2_with fail
    go_ret
    exact ⟨_, hI.out, rfl, Hc2.out, Hg2.out⟩
  have e1 : (x == 1) = false := beq_eq_false_iff_ne.2 h1
  have HA := Lib.hid (below_any c A len cap z 95 w1 hc1 (by decide) (by decide))
  have Hg1 := Lib.hid hg1
  clear hg1 hc1
  go_wp2_with fail
  refine HA.out.mono ?_
  rintro e w2 ⟨a, ha, rfl, hc2, hg2⟩
  have Hg2 := Lib.hid (grown_trans Hg1.out hg2)
  have Hc2 := Lib.hid hc2
  have hI : Hid (I64 (32 + a)) := by unfold Hid I64; omega
  clear hg2 hc2 HA Hg1
  go_wp2_with fail
  go_ret
  exact ⟨_, hI.out, rfl, Hc2.out, Hg2.out⟩

theorem I64.wf {x : Int} (h : I64 x) : (Lit.int .i64 x).wf = true := by
  have e1 : IntKind.i64.min = -9223372036854775808 := rfl
  have e2 : IntKind.i64.max = 9223372036854775807 := rfl
  unfold I64 at h
  simp [Lit.wf, e1, e2]
  exact h

end Go.Proofs.YtamlkieeiflgkaaDoor.draw
