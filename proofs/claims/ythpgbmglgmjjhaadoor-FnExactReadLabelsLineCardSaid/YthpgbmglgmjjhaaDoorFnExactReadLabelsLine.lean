/- FnExactReadLabelsLine: the law returns true at every argument. Printed by gen/lawl.py. -/
import Derived.Test.YthpgbmglgmjjhaaDoorRdLS
import Derived.Test.YthpgbmglgmjjhaaDoorEqLabelS
import Derived.Test.YthpgbmglgmjjhaaDoorMkLabelS
import Derived.Test.YthpgbmglgmjjhaaDoorHdLabelS
import Derived.Test.YthpgbmglgmjjhaaDoorLawL
import Derived.Test.YthpgbmglgmjjhaaDoorRdLI
namespace Go.Proofs.YthpgbmglgmjjhaaDoor.fnExactReadLabelsLine
open Go.ChangeShapes Go.WideShapes Go.ChangeAt Go.RowKit
open lab ty
set_option linter.unusedVariables false

set_option maxRecDepth 100000 in
set_option maxHeartbeats 8000000 in
theorem walk (s : ByteArray) (W : World) (hs : s.size ≤ maxLen) (hM : line.MaxL W) :
    Calls Tryd.prog 7 #[.string s] W fun e w' => e = .returned (.bool true) ∧ Below W.heap.size W w' := by
  have ms := hs
  unfold maxLen at ms
  by_cases ls : 1048576 < s.size
  · go_enter Tryd.func7, Tryd.ntmps7
    go_wp2_with fail
    go_ret
    exact ⟨rfl, Below.refl _ _⟩
  have h9s : s.size ≤ 1048576 := by omega
  have HELabel := Lib.hid (fun l f1 f2 v1 v2 w h1 h2 => eqLabelS l f1 f2 v1 v2 w h1 h2)
  have hlen := read_len s
  have HS := Lib.hid (fun  w  => spec_read s  w  h9s)
  have HI := Lib.hid (fun  w  (hbW : Below W.heap.size W w) => impl_read s  w  h9s (hM.below hbW))
  generalize readF s = R at HS HI hlen
  obtain ⟨rl, rb⟩ := R
  simp only at hlen
  have HMLabel := Lib.hid (fun B v l f F k w hown hnd h0 hk => mkLabelS B v l f F k w hown hnd h0 hk)
  have hcr : 1 + (wsum Label.cost rl : Int) ≤ 4611686018427387904 := by have := Label.cost_le rl; omega
  have HCr := Lib.hid hcr
  have HH := Lib.hid (fun f v w h => hdLabelS rl f v 1 w h (by decide) hcr)
  have kr : ¬ 1 + (wsum Label.cost rl : Int) < 0 := by omega
  clear hlen hcr
  go_enter Tryd.func7, Tryd.ntmps7
  go_wp2_with fail
  refine (HS.out _).mono ?_
  rintro e w1 ⟨xw, fw, Fw, rfl, ow, dw, hb_1⟩
  have rw := ow.range
  have BB := Lib.hid hb_1
  have S_2 := Lib.hid (show W.heap.size ≤ w1.heap.size from hb_1.size)
  clear  hb_1
  have Ow := Lib.hid ow
  have Rw := Lib.hid (show ∀ x ∈ Fw, W.heap.size ≤ x ∧ x < w1.heap.size from rw)
  have Dw := Lib.hid dw
  clear ow rw dw
  go_wp2_with fail
  refine (HI.out _ BB.out).mono ?_
  rintro e w2 ⟨xg, fg, Fg, rfl, og, dg, hb_3⟩
  have rg := og.range
  have w_4 := Lib.hid (Ow.out.below hb_3)
  have BB_5 := Lib.hid (below_link BB.out hb_3 BB.out.size)
  clear BB
  have BB := BB_5
  clear BB_5
  have S_6 := Lib.hid (show w1.heap.size ≤ w2.heap.size from hb_3.size)
  clear Ow hb_3
  have Og := Lib.hid og
  have Rg := Lib.hid (show ∀ x ∈ Fg, w1.heap.size ≤ x ∧ x < w2.heap.size from rg)
  have Dg := Lib.hid dg
  clear og rg dg
  go_wp2_with fail
  refine (HELabel.out _ _ _ _ _ _ Og.out.lies w_4.out.lies).mono ?_
  rintro e w3 ⟨rfl, hb_7⟩
  have w_8 := Lib.hid (w_4.out.below hb_7)
  have g_9 := Lib.hid (Og.out.below hb_7)
  have BB_10 := Lib.hid (below_link BB.out hb_7 BB.out.size)
  clear BB
  have BB := BB_10
  clear BB_10
  have S_11 := Lib.hid (show w2.heap.size ≤ w3.heap.size from hb_7.size)
  clear w_4 Og hb_7
  go_wp2_with fail
  refine (HMLabel.out _ _ _ _ _ 1 _ g_9.out Dg.out (by decide) HCr.out).mono ?_
  rintro e w4 ⟨rfl, hmg, hk_12⟩
  have w_13 := Lib.hid (w_8.out.but hk_12 (fun x hy hx => by have := S_2.out; have := S_6.out; have := S_11.out; have h1 := Rg.out _ hx; have h2 := Rw.out _ hy; omega))
  have g_14 := Lib.hid hmg
  have BB_15 := Lib.hid (KeptBut.below BB.out hk_12 BB.out.size (fun x hx => by have := S_2.out; have := S_6.out; have := S_11.out; have h1 := Rg.out _ hx; omega))
  clear BB
  have BB := BB_15
  clear BB_15
  have S_16 := Lib.hid (show w3.heap.size ≤ w4.heap.size from hk_12.size)
  clear w_8 g_9 hk_12 hmg
  go_wp2_with fail
  refine (HH.out _ _ _ g_14.out.lies).mono ?_
  rintro e w5 ⟨rfl, hb_17⟩
  have w_18 := Lib.hid (w_13.out.below hb_17)
  have g_19 := Lib.hid (g_14.out.below hb_17)
  have BB_20 := Lib.hid (below_link BB.out hb_17 BB.out.size)
  clear BB
  have BB := BB_20
  clear BB_20
  have S_21 := Lib.hid (show w4.heap.size ≤ w5.heap.size from hb_17.size)
  clear w_13 g_14 hb_17
  go_wp2_with fail
  refine (HI.out _ BB.out).mono ?_
  rintro e w6 ⟨xh, fh, Fh, rfl, oh, dh, hb_22⟩
  have rh := oh.range
  have w_23 := Lib.hid (w_18.out.below hb_22)
  have g_24 := Lib.hid (g_19.out.below hb_22)
  have BB_25 := Lib.hid (below_link BB.out hb_22 BB.out.size)
  clear BB
  have BB := BB_25
  clear BB_25
  have S_26 := Lib.hid (show w5.heap.size ≤ w6.heap.size from hb_22.size)
  clear w_18 g_19 hb_22
  have Oh := Lib.hid oh
  have Rh := Lib.hid (show ∀ x ∈ Fh, w5.heap.size ≤ x ∧ x < w6.heap.size from rh)
  have Dh := Lib.hid dh
  clear oh rh dh
  go_wp2_with fail
  refine (HELabel.out _ _ _ _ _ _ Oh.out.lies w_23.out.lies).mono ?_
  rintro e w7 ⟨rfl, hb_27⟩
  have w_28 := Lib.hid (w_23.out.below hb_27)
  have g_29 := Lib.hid (g_24.out.below hb_27)
  have h_30 := Lib.hid (Oh.out.below hb_27)
  have BB_31 := Lib.hid (below_link BB.out hb_27 BB.out.size)
  clear BB
  have BB := BB_31
  clear BB_31
  have S_32 := Lib.hid (show w6.heap.size ≤ w7.heap.size from hb_27.size)
  clear w_23 g_24 Oh hb_27
  go_wp2_with fail
  refine (HH.out _ _ _ g_29.out.lies).mono ?_
  rintro e w8 ⟨rfl, hb_33⟩
  have w_34 := Lib.hid (w_28.out.below hb_33)
  have g_35 := Lib.hid (g_29.out.below hb_33)
  have h_36 := Lib.hid (h_30.out.below hb_33)
  have BB_37 := Lib.hid (below_link BB.out hb_33 BB.out.size)
  clear BB
  have BB := BB_37
  clear BB_37
  have S_38 := Lib.hid (show w7.heap.size ≤ w8.heap.size from hb_33.size)
  clear w_28 g_29 h_30 hb_33
  go_wp2_with fail
  go_ret
  exact ⟨rfl, BB.out⟩
end Go.Proofs.YthpgbmglgmjjhaaDoor.fnExactReadLabelsLine
