/- spec.DrawShortText: some string of at most 300 bytes. -/
import Derived.Test.YtfpnhpocjelmfaaDrawText
namespace Go.Proofs.Ytfpnhpocjelmfaa.draw
open Go.ChangeShapes Go.WideShapes Go.ChangeAt Go.RowKit
set_option linter.unusedVariables false

theorem shortText_any (A : Option Addr) (len cap : Nat) (zs : List Int) (w : World) (hr : IsRow .u8 w A len cap zs) (hlen : len ≤ 1048576) :
    Calls Try.prog 17 #[.slice A len cap] w fun e w' => ∃ l : List UInt8, l.length ≤ 300 ∧ e = .returned (.string ⟨l.toArray⟩) ∧ Below w.heap.size w w' := by
  have HN := Lib.hid (new_any A len cap zs w hr hlen)
  clear hr
  go_enter Try.func17, Try.ntmps17
  go_wp2_with fail
  refine HN.out.mono ?_
  clear HN
  rintro e w1 ⟨c, rfl, hcw, hc1, hb1⟩
  generalize (fun j => zs.getD j 0) = z at hc1
  have hlt := hc1.lt
  have HP := Lib.hid (pick_any c A len cap z w1.heap.size 6 6 [0, 1, 5, 127, 128, 300] _ (cur_alloc hc1 _) (by decide) (by decide) rfl hlt (heap_alloc_new w1 _))
  have Hb1 := Lib.hid (hb1.alloc hb1.size (.cells (icells [0, 1, 5, 127, 128, 300]).toArray 3))
  clear hc1 hlt hb1
  go_wp2_with fail
  refine HP.out.mono ?_
  rintro e w2 ⟨x, hx, rfl, hc2, hg2⟩
  have Hb2 := Lib.hid (Hb1.out.grown hg2 Hb1.out.size (fun b hb => by injection hb with hb; omega))
  have hx2 : 0 ≤ x ∧ x ≤ 300 := by simp at hx; omega
  clear hx HP Hb1 hg2
  obtain ⟨n, rfl⟩ := Int.eq_ofNat_of_zero_le hx2.1
  have HT := Lib.hid (text_any c A len cap z n w2 hc2 (by omega))
  clear hc2
  go_wp2_with fail
  refine HT.out.mono ?_
  clear HT
  rintro e w3 ⟨l, hl, rfl, hc3, hg3⟩
  have Hb3 := Lib.hid (Hb2.out.grown hg3 Hb2.out.size (fun b hb => by injection hb with hb; omega))
  have Hl : Hid (l.length ≤ 300) := by unfold Hid; omega
  clear hl hc3 hg3 Hb2
  go_wp2_with fail
  go_ret
  exact ⟨l, Hl.out, rfl, Hb3.out⟩
end Go.Proofs.Ytfpnhpocjelmfaa.draw
