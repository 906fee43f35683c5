/- spec.DrawVarText: some int. -/
import Derived.Test.YtfpnhpocjelmfaaDrawNum
namespace Go.Proofs.Ytfpnhpocjelmfaa.draw
open Go.ChangeShapes Go.WideShapes Go.ChangeAt Go.RowKit
set_option linter.unusedVariables false

theorem varText_any (A : Option Addr) (len cap : Nat) (zs : List Int) (w : World) (hr : IsRow .u8 w A len cap zs) (hlen : len ≤ 1048576) :
    Calls Try.prog 13 #[.slice A len cap] w fun e w' => ∃ a : Int, I64 a ∧ e = .returned (.int .i64 a) ∧ Below w.heap.size w w' := by
  have HN := Lib.hid (new_any A len cap zs w hr hlen)
  clear hr
  go_enter Try.func13, Try.ntmps13
  go_wp2_with fail
  refine HN.out.mono ?_
  clear HN
  rintro e w1 ⟨c, rfl, hcw, hc, hb1⟩
  generalize (fun j => zs.getD j 0) = z at hc
  have HA := Lib.hid (num_any c A len cap z w1 hc)
  have Hb1 := Lib.hid hb1
  clear hc hb1
  go_wp2_with fail
  refine HA.out.mono ?_
  clear HA
  rintro e w2 ⟨x, hx, rfl, hc2, hg2⟩
  have Hb2 := Lib.hid (Hb1.out.grown hg2 Hb1.out.size (fun b hb => by injection hb with hb; omega))
  have Hx := Lib.hid hx
  clear hg2 Hb1 hx hc2
  go_wp2_with fail
  go_ret
  exact ⟨x, Hx.out, rfl, Hb2.out⟩
end Go.Proofs.Ytfpnhpocjelmfaa.draw
