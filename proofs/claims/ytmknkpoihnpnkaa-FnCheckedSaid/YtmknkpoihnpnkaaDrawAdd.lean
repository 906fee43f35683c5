/- spec.DrawAddInt: two ints. -/
import Derived.Test.YtmknkpoihnpnkaaDrawNum
import Derived.Test.YtmknkpoihnpnkaaDrawOnce
namespace Go.Proofs.Ytmknkpoihnpnkaa.draw
open Go.ChangeShapes Go.WideShapes Go.ChangeAt Go.RowKit
set_option linter.unusedVariables false

def Two (w : World) (e : Ending) (w' : World) : Prop :=
  ∃ a b : Int, I64 a ∧ I64 b ∧ e = .returned (.tuple #[.int .i64 a, .int .i64 b]) ∧ Below w.heap.size w w'

theorem two_any (A : Option Addr) (len cap : Nat) (zs : List Int) (w : World) (hr : IsRow .u8 w A len cap zs) (hlen : len ≤ 1048576) :
    Calls Try.prog 26 #[.slice A len cap] w (Two w) := by
  have HN := Lib.hid (new_any A len cap zs w hr hlen)
  clear hr
  go_enter Try.func26, Try.ntmps26
  go_wp2_with fail
  refine HN.out.mono ?_
  clear HN
  rintro e w1 ⟨c, rfl, hcw, hc, hb1⟩
  generalize (fun j => zs.getD j 0) = z at hc
  have HA := Lib.hid (num_any c A len cap z w1 hc)
  have Hb1 := Lib.hid hb1
  clear hc hb1
  go_wp2_with fail
  refine HA.out.mono ?_
  clear HA
  rintro e w2 ⟨a, ha, rfl, hc2, hg2⟩
  have HO := Lib.hid (once_any c A len cap z 4 w2 hc2 (by decide) (by decide))
  have Hb2 := Lib.hid (Hb1.out.grown hg2 Hb1.out.size (fun b hb => by injection hb with hb; omega))
  have Ha := Lib.hid ha
  clear hc2 hg2 ha
  go_wp2_with fail
  refine HO.out.mono ?_
  clear HO
  rintro e w3 ⟨q, rfl, hc3, hg3⟩
  have Hb3 := Lib.hid (Hb2.out.grown hg3 Hb2.out.size (fun b hb => by injection hb with hb; omega))
  have HA := Lib.hid (num_any c A len cap z w3 hc3)
  clear hc3 hg3 Hb1 Hb2
  cases q with
  | true =>
    have hw : Hid (I64 (wrap64 (9223372036854775807 - a))) := by
      unfold Hid I64 wrap64; omega
    go_wp2_with fail
    go_ret2
    exact ⟨a, _, Ha.out, hw.out, rfl, Hb3.out⟩
  | false =>
    go_wp2_with fail
    refine HA.out.mono ?_
    clear HA
    rintro e w4 ⟨b, hb, rfl, hc4, hg4⟩
    have Hb4 := Lib.hid (Hb3.out.grown hg4 Hb3.out.size (fun b hb => by injection hb with hb; omega))
    have Hb := Lib.hid hb
    clear hc4 hg4 Hb3 hb
    go_wp2_with fail
    go_ret2
    exact ⟨a, b, Ha.out, Hb.out, rfl, Hb4.out⟩

theorem add_any (A : Option Addr) (len cap : Nat) (zs : List Int) (w : World) (hr : IsRow .u8 w A len cap zs) (hlen : len ≤ 1048576) :
    Calls Try.prog 11 #[.slice A len cap] w (Two w) := by
  have HN := Lib.hid (two_any A len cap zs w hr hlen)
  clear hr
  go_enter Try.func11, Try.ntmps11
  go_wp2_with fail
  refine HN.out.mono ?_
  rintro e w1 ⟨a, b, ha, hb, rfl, hb1⟩
  have Ha := Lib.hid ha
  have Hb := Lib.hid hb
  have Hb1 := Lib.hid hb1
  clear ha hb hb1
  go_wp2_with fail
  go_ret2
  exact ⟨a, b, Ha.out, Hb.out, rfl, Hb1.out⟩
end Go.Proofs.Ytmknkpoihnpnkaa.draw
