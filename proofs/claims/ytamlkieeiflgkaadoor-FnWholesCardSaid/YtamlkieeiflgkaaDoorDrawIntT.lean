/- Drawn integers: DrawIntText. -/
import Derived.Test.YtamlkieeiflgkaaDoorDrawNum
namespace Go.Proofs.YtamlkieeiflgkaaDoor.draw
open Go.ChangeShapes Go.WideShapes Go.ChangeAt Go.RowKit
set_option linter.unusedVariables false

theorem intText_any (A : Option Addr) (len cap : Nat) (zs : List Int) (w : World) (hr : IsRow .u8 w A len cap zs) (hlen : len ≤ 1048576) :
    Calls Tryd.prog 28 #[.slice A len cap] w fun e w' => ∃ n : Int, I64 n ∧ e = .returned (.int .i64 n) ∧ Below w.heap.size w w' := by
  have HN := Lib.hid (new_any A len cap zs w hr hlen)
  clear hr
  go_enter Tryd.func28, Tryd.ntmps28
  go_wp2_with fail
  refine HN.out.mono ?_
  clear HN
  rintro e w1 ⟨c, rfl, hcw, hc, hb1⟩
  generalize (fun j => zs.getD j 0) = z at hc
  have HR := Lib.hid (num_any c A len cap z w1 hc)
  clear hc
  go_wp2_with fail
  refine HR.out.mono ?_
  rintro e w2 ⟨n, hn, rfl, hc2, hg2⟩
  have Hb := Lib.hid (hb1.grown hg2 hb1.size (fun b hb => by injection hb with hb; omega))
  have Hn := Lib.hid hn
  clear hc2 hg2 hb1 HR hn
  go_wp2_with fail
  go_ret
  exact ⟨n, Hn.out, rfl, Hb.out⟩
end Go.Proofs.YtamlkieeiflgkaaDoor.draw
