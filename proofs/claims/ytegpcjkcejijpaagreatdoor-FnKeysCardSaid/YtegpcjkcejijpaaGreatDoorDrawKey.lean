/- DrawKeyText. -/
import Derived.Test.YtegpcjkcejijpaaGreatDoorGWd
namespace Go.Proofs.YtegpcjkcejijpaaGreatDoor.draw
open Go.ChangeShapes Go.WideShapes Go.ChangeAt Go.RowKit
set_option linter.unusedVariables false

set_option maxRecDepth 100000 in
theorem keyText_any (A : Option Addr) (len cap : Nat) (zs : List Int) (w : World) (hr : IsRow .u8 w A len cap zs) (hlen : len ≤ 1048576) :
    Calls Tryz.prog 10 #[.slice A len cap] w fun e w' => ∃ s : ByteArray, s.size ≤ 28 ∧ e = .returned (.string s) ∧ Below w.heap.size w w' := by
  have HN := Lib.hid (new_any A len cap zs w hr hlen)
  clear hr
  go_enter Tryz.func10, Tryz.ntmps10
  go_wp2_with fail
  refine HN.out.mono ?_
  clear HN
  rintro e w1 ⟨c, rfl, hcw, hc, hb1⟩
  generalize (fun j => zs.getD j 0) = z at hc
  have HR := Lib.hid (word_any c A len cap z w1 hc)
  clear hc
  go_wp2_with fail
  refine HR.out.mono ?_
  rintro e w2 ⟨s, hs, rfl, hc2, hg2⟩
  have Hb := Lib.hid (hb1.grown hg2 hb1.size (fun b hb => by injection hb with hb; omega))
  clear hc2 hg2 hb1 HR
  go_wp2_with fail
  go_ret
  exact ⟨s, hs.1, rfl, Hb.out⟩
end Go.Proofs.YtegpcjkcejijpaaGreatDoor.draw
