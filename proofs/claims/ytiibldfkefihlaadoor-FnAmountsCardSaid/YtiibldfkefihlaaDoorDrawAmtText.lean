/- spec.DrawAmountText: some int. -/
import Derived.Test.YtiibldfkefihlaaDoorDrawAmt
import Derived.Test.YtiibldfkefihlaaDoorReadAmtS
namespace Go.Proofs.YtiibldfkefihlaaDoor.draw
open Go.ChangeShapes Go.WideShapes Go.ChangeAt Go.RowKit
set_option linter.unusedVariables false

def OneI (w : World) (e : Ending) (w' : World) : Prop := ∃ a : Int, I64 a ∧ e = .returned (.int .i64 a) ∧ Below w.heap.size w w'
theorem amountText_any (A : Option Addr) (len cap : Nat) (zs : List Int) (w : World) (hr : IsRow .u8 w A len cap zs) (hlen : len ≤ 1048576) :
    Calls Tryd.prog 10 #[.slice A len cap] w (OneI w) := by
  have HN := Lib.hid (new_any A len cap zs w hr hlen)
  clear hr
  go_enter Tryd.func10, Tryd.ntmps10
  go_wp2_with fail
  refine HN.out.mono ?_
  clear HN
  rintro e w1 ⟨c, rfl, hcw, hc, hb1⟩
  generalize (fun j => zs.getD j 0) = z at hc
  have H4 := Lib.hid (below_any c A len cap z 4 w1 hc (by decide) (by decide))
  have Hb1 := Lib.hid hb1
  clear hc hb1
  go_wp2_with fail
  refine H4.out.mono ?_
  clear H4
  rintro e w2 ⟨x, hx, rfl, hc2, hg2⟩
  have Hb2 := Lib.hid (Hb1.out.grown hg2 Hb1.out.size (fun b hb => by injection hb with hb; omega))
  clear hg2 Hb1
  by_cases h0 : x = 0
  · subst h0
    have HT := Lib.hid (text3_any c A len cap z w2 hc2)
    clear hc2 hx
    go_wp2_with fail
    refine HT.out.mono ?_
    rintro e w3 ⟨s, hs, rfl, hc3, hg3⟩
    have Hb3 := Lib.hid (Hb2.out.grown hg3 Hb2.out.size (fun b hb => by injection hb with hb; omega))
    have HR := Lib.hid (amount.spec_read s w3 (by unfold maxLen; omega))
    have hbd := amount.read_bd s
    have HI : Hid (I64 (amount.readF s).1) := by unfold Hid I64; omega
    generalize (amount.readF s).1 = y at HR HI
    generalize (amount.readF s).2 = d at HR
    clear HT hc3 hg3 Hb2 hbd hs
    go_wp2_with fail
    refine HR.out.mono ?_
    rintro e w4 ⟨rfl, hb4⟩
    have Hb4 := Lib.hid (Hb3.out.trans (hb4.mono Hb3.out.size))
    clear HR hb4 Hb3
    go_wp2_with fail
    go_ret
    exact ⟨y, HI.out, rfl, Hb4.out⟩
  have e0 : (x == 0) = false := beq_eq_false_iff_ne.2 h0
  by_cases h1 : x = 1
  · subst h1
    have HB := Lib.hid (below_any c A len cap z 5000 w2 hc2 (by decide) (by decide))
    clear hc2 hx
    go_wp2_with fail
    refine HB.out.mono ?_
    rintro e w3 ⟨a, ha, rfl, hc3, hg3⟩
    have Hb3 := Lib.hid (Hb2.out.grown hg3 Hb2.out.size (fun b hb => by injection hb with hb; omega))
    have HI : Hid (I64 (1000 * a)) := by unfold Hid I64; omega
    clear HB hc3 hg3 Hb2
    go_wp2_with fail
    go_ret
    exact ⟨_, HI.out, rfl, Hb3.out⟩
  have e1 : (x == 1) = false := beq_eq_false_iff_ne.2 h1
  have HA := Lib.hid (num_any c A len cap z w2 hc2)
  clear hc2
  go_wp2_with fail
  refine HA.out.mono ?_
  clear HA
  rintro e w3 ⟨a, ha, rfl, hc3, hg3⟩
  have Hb3 := Lib.hid (Hb2.out.grown hg3 Hb2.out.size (fun b hb => by injection hb with hb; omega))
  have Ha := Lib.hid ha
  clear hc3 hg3 ha Hb2
  go_wp2_with fail
  go_ret
  exact ⟨a, Ha.out, rfl, Hb3.out⟩
end Go.Proofs.YtiibldfkefihlaaDoor.draw
