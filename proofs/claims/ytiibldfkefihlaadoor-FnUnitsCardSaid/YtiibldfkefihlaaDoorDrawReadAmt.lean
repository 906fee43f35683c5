/- spec.DrawReadAmount: some string of at most 100 bytes. -/
import Derived.Test.YtiibldfkefihlaaDoorDrawAmt
namespace Go.Proofs.YtiibldfkefihlaaDoor.draw
open Go.ChangeShapes Go.WideShapes Go.ChangeAt Go.RowKit
set_option linter.unusedVariables false

def OneStr (w : World) (e : Ending) (w' : World) : Prop := ∃ s : ByteArray, s.size ≤ 100 ∧ e = .returned (.string s) ∧ Below w.heap.size w w'
theorem readAmount_any (A : Option Addr) (len cap : Nat) (zs : List Int) (w : World) (hr : IsRow .u8 w A len cap zs) (hlen : len ≤ 1048576) :
    Calls Tryd.prog 16 #[.slice A len cap] w (OneStr w) := by
  have HN := Lib.hid (new_any A len cap zs w hr hlen)
  clear hr
  go_enter Tryd.func16, Tryd.ntmps16
  go_wp2_with fail
  refine HN.out.mono ?_
  clear HN
  rintro e w1 ⟨c, rfl, hcw, hc, hb1⟩
  generalize (fun j => zs.getD j 0) = z at hc
  have HA := Lib.hid (text3_any c A len cap z w1 hc)
  have Hb1 := Lib.hid hb1
  clear hc hb1
  go_wp2_with fail
  refine HA.out.mono ?_
  clear HA
  rintro e w2 ⟨a, ha, rfl, hc2, hg2⟩
  have Hb2 := Lib.hid (Hb1.out.grown hg2 Hb1.out.size (fun b hb => by injection hb with hb; omega))
  have Ha := Lib.hid ha
  clear hc2 hg2 ha
  go_wp2_with fail
  go_ret
  exact ⟨a, Ha.out, rfl, Hb2.out⟩
end Go.Proofs.YtiibldfkefihlaaDoor.draw
