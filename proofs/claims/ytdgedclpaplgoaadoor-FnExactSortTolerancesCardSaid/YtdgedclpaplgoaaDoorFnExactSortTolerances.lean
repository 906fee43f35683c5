/- FnExactSortTolerances: the law returns true at every argument. Printed by gen/lawl.py. -/
import Derived.Test.YtdgedclpaplgoaaDoorSrtToleranceS
import Derived.Test.YtdgedclpaplgoaaDoorGA18
import Derived.Test.YtdgedclpaplgoaaDoorGA19
import Derived.Test.YtdgedclpaplgoaaDoorGA5
import Derived.Test.YtdgedclpaplgoaaDoorGA21
namespace Go.Proofs.YtdgedclpaplgoaaDoor.fnExactSortTolerances
open Go.ChangeShapes Go.WideShapes Go.ChangeAt Go.RowKit
open lab ty taint
set_option linter.unusedVariables false

set_option maxRecDepth 100000 in
set_option maxHeartbeats 8000000 in
theorem walk (l : List Tolerance) (fl : Nat) (vl : Value) (W : World) (hl : Lies W fl vl (.sl 4 l.length (l.flatMap Tolerance.row))) :
    Calls Tryd.prog 6 #[vl] W fun e w' => e = .returned (.bool true) ∧ Below W.heap.size W w' := by
  have Al := Lib.hid hl
  obtain ⟨zl, hzl⟩ : ∃ x, x = (l.length + wsum Tolerance.wt l) := ⟨_, rfl⟩
  by_cases cl : (1048576 : Int) < (zl : Int)
  · skip
    have HZl := Lib.hid (fun w hw => szToleranceS l fl vl (1048576) w hw (by unfold LeftN; omega))
    rw [← hzl, cutN_no (show (1048576 : Int) < (zl : Int) by omega)] at HZl
    clear hl hzl cl
    go_enter Tryd.func6, Tryd.ntmps6
    go_wp2_with fail
    refine (HZl.out _ Al.out).mono ?_
    rintro e w1 ⟨rfl, hb_1⟩
    have BB := Lib.hid hb_1
    have S_2 := Lib.hid (show W.heap.size ≤ w1.heap.size from hb_1.size)
    clear  hb_1
    go_wp2_with fail
    go_ret
    exact ⟨rfl, BB.out⟩
  have HZl := Lib.hid (fun w hw => szToleranceS l fl vl (1048576) w hw (by unfold LeftN; omega))
  rw [← hzl, cutN_yes cl] at HZl
  have kl : ¬ 1048576 - (zl : Int) < 0 := by omega
  have nl : l.length ≤ 1048576 := by omega
  have ql : wsum Tolerance.wt l ≤ 1048576 := by omega
  have HTl := Lib.hid (fun w hw => toToleranceS l fl vl w hw nl)
  have HETolerance := Lib.hid (fun l f1 f2 v1 v2 w h1 h2 => eqToleranceS l f1 f2 v1 v2 w h1 h2)
  have hlen := sortL_len (P := TolsP) (lt := befT) nl
  have HS := Lib.hid (fun gl xl w hl => spec_sortTolerance l gl xl w hl ql nl)
  have HI := Lib.hid (fun gl xl w hl => impl_sortTolerance l gl xl w hl nl)
  generalize sortL TolsP befT l = R at HS HI hlen
  obtain ⟨rl, rb⟩ := R
  simp only at hlen
  have HMTolerance := Lib.hid (fun B v l f F k w hown hnd h0 hk => mkToleranceS B v l f F k w hown hnd h0 hk)
  have hcr : 1 + (wsum Tolerance.cost rl : Int) ≤ 4611686018427387904 := by have := wsum_le (f := Tolerance.cost) (c := 4) (fun _ => Nat.le_refl 4) rl; omega
  have HCr := Lib.hid hcr
  have HH := Lib.hid (fun f v w h => hdToleranceS rl f v 1 w h (by decide) hcr)
  have kr : ¬ 1 + (wsum Tolerance.cost rl : Int) < 0 := by omega
  have HCl := Lib.hid (show 1 + (wsum Tolerance.cost l : Int) ≤ 4611686018427387904 by have := wsum_le (f := Tolerance.cost) (c := 4) (fun _ => Nat.le_refl 4) l; omega)
  have kcl : ¬ 1 + (wsum Tolerance.cost l : Int) < 0 := by omega
  clear hlen hcr
  clear hl hzl cl nl ql
  generalize 1048576 - (zl : Int) = yl at HZl kl
  go_enter Tryd.func6, Tryd.ntmps6
  go_wp2_with fail
  refine (HZl.out _ Al.out).mono ?_
  rintro e w1 ⟨rfl, hb_1⟩
  have BB := Lib.hid hb_1
  have S_2 := Lib.hid (show W.heap.size ≤ w1.heap.size from hb_1.size)
  clear  hb_1
  go_wp2_with fail
  refine (HTl.out _ (Al.out.below BB.out)).mono ?_
  rintro e w2 ⟨xal, rfl, rowal, hb_3⟩
  obtain ⟨Fal, oal, dal, ral⟩ := rowal.own
  clear rowal
  have BB_4 := Lib.hid (below_link BB.out hb_3 BB.out.size)
  clear BB
  have BB := BB_4
  clear BB_4
  have S_5 := Lib.hid (show w1.heap.size ≤ w2.heap.size from hb_3.size)
  clear  hb_3
  have Oal := Lib.hid oal
  have Ral := Lib.hid (show ∀ x ∈ Fal, w1.heap.size ≤ x ∧ x < w2.heap.size from ral)
  have Dal := Lib.hid dal
  clear oal ral dal
  go_wp2_with fail
  refine (HS.out _ _ _ Oal.out.lies).mono ?_
  rintro e w3 ⟨xw, fw, Fw, rfl, ow, dw, hb_6⟩
  have rw := ow.range
  have al_7 := Lib.hid (Oal.out.below hb_6)
  have BB_8 := Lib.hid (below_link BB.out hb_6 BB.out.size)
  clear BB
  have BB := BB_8
  clear BB_8
  have S_9 := Lib.hid (show w2.heap.size ≤ w3.heap.size from hb_6.size)
  clear Oal hb_6
  have Ow := Lib.hid ow
  have Rw := Lib.hid (show ∀ x ∈ Fw, w2.heap.size ≤ x ∧ x < w3.heap.size from rw)
  have Dw := Lib.hid dw
  clear ow rw dw
  go_wp2_with fail
  refine (HTl.out _ (Al.out.below BB.out)).mono ?_
  rintro e w4 ⟨xbl, rfl, rowbl, hb_10⟩
  obtain ⟨Fbl, obl, dbl, rbl⟩ := rowbl.own
  clear rowbl
  have w_11 := Lib.hid (Ow.out.below hb_10)
  have BB_12 := Lib.hid (below_link BB.out hb_10 BB.out.size)
  clear BB
  have BB := BB_12
  clear BB_12
  have S_13 := Lib.hid (show w3.heap.size ≤ w4.heap.size from hb_10.size)
  clear Ow hb_10
  have Obl := Lib.hid obl
  have Rbl := Lib.hid (show ∀ x ∈ Fbl, w3.heap.size ≤ x ∧ x < w4.heap.size from rbl)
  have Dbl := Lib.hid dbl
  clear obl rbl dbl
  go_wp2_with fail
  refine (HI.out _ _ _ Obl.out.lies).mono ?_
  rintro e w5 ⟨xg, fg, Fg, rfl, og, dg, hb_14⟩
  have rg := og.range
  have w_15 := Lib.hid (w_11.out.below hb_14)
  have bl_16 := Lib.hid (Obl.out.below hb_14)
  have BB_17 := Lib.hid (below_link BB.out hb_14 BB.out.size)
  clear BB
  have BB := BB_17
  clear BB_17
  have S_18 := Lib.hid (show w4.heap.size ≤ w5.heap.size from hb_14.size)
  clear w_11 Obl hb_14
  have Og := Lib.hid og
  have Rg := Lib.hid (show ∀ x ∈ Fg, w4.heap.size ≤ x ∧ x < w5.heap.size from rg)
  have Dg := Lib.hid dg
  clear og rg dg
  go_wp2_with fail
  refine (HETolerance.out _ _ _ _ _ _ Og.out.lies w_15.out.lies).mono ?_
  rintro e w6 ⟨rfl, hb_19⟩
  have w_20 := Lib.hid (w_15.out.below hb_19)
  have bl_21 := Lib.hid (bl_16.out.below hb_19)
  have g_22 := Lib.hid (Og.out.below hb_19)
  have BB_23 := Lib.hid (below_link BB.out hb_19 BB.out.size)
  clear BB
  have BB := BB_23
  clear BB_23
  have S_24 := Lib.hid (show w5.heap.size ≤ w6.heap.size from hb_19.size)
  clear w_15 bl_16 Og hb_19
  go_wp2_with fail
  refine (HTl.out _ (Al.out.below BB.out)).mono ?_
  rintro e w7 ⟨xcl, rfl, rowcl, hb_25⟩
  obtain ⟨Fcl, ocl, dcl, rcl⟩ := rowcl.own
  clear rowcl
  have w_26 := Lib.hid (w_20.out.below hb_25)
  have bl_27 := Lib.hid (bl_21.out.below hb_25)
  have g_28 := Lib.hid (g_22.out.below hb_25)
  have BB_29 := Lib.hid (below_link BB.out hb_25 BB.out.size)
  clear BB
  have BB := BB_29
  clear BB_29
  have S_30 := Lib.hid (show w6.heap.size ≤ w7.heap.size from hb_25.size)
  clear w_20 bl_21 g_22 hb_25
  have Ocl := Lib.hid ocl
  have Rcl := Lib.hid (show ∀ x ∈ Fcl, w6.heap.size ≤ x ∧ x < w7.heap.size from rcl)
  have Dcl := Lib.hid dcl
  clear ocl rcl dcl
  go_wp2_with fail
  refine (HETolerance.out _ _ _ _ _ _ bl_27.out.lies Ocl.out.lies).mono ?_
  rintro e w8 ⟨rfl, hb_31⟩
  have w_32 := Lib.hid (w_26.out.below hb_31)
  have bl_33 := Lib.hid (bl_27.out.below hb_31)
  have g_34 := Lib.hid (g_28.out.below hb_31)
  have cl_35 := Lib.hid (Ocl.out.below hb_31)
  have BB_36 := Lib.hid (below_link BB.out hb_31 BB.out.size)
  clear BB
  have BB := BB_36
  clear BB_36
  have S_37 := Lib.hid (show w7.heap.size ≤ w8.heap.size from hb_31.size)
  clear w_26 bl_27 g_28 Ocl hb_31
  go_wp2_with fail
  refine (HMTolerance.out _ _ _ _ _ 1 _ bl_33.out Dbl.out (by decide) HCl.out).mono ?_
  rintro e w9 ⟨rfl, hmbl, hk_38⟩
  have w_39 := Lib.hid (w_32.out.but hk_38 (fun x hy hx => by have := S_2.out; have := S_5.out; have := S_9.out; have := S_13.out; have := S_18.out; have := S_24.out; have := S_30.out; have := S_37.out; have h1 := Rbl.out _ hx; have h2 := Rw.out _ hy; omega))
  have bl_40 := Lib.hid hmbl
  have g_41 := Lib.hid (g_34.out.but hk_38 (fun x hy hx => by have := S_2.out; have := S_5.out; have := S_9.out; have := S_13.out; have := S_18.out; have := S_24.out; have := S_30.out; have := S_37.out; have h1 := Rbl.out _ hx; have h2 := Rg.out _ hy; omega))
  have BB_42 := Lib.hid (KeptBut.below BB.out hk_38 BB.out.size (fun x hx => by have := S_2.out; have := S_5.out; have := S_9.out; have := S_13.out; have := S_18.out; have := S_24.out; have := S_30.out; have := S_37.out; have h1 := Rbl.out _ hx; omega))
  clear BB
  have BB := BB_42
  clear BB_42
  have S_43 := Lib.hid (show w8.heap.size ≤ w9.heap.size from hk_38.size)
  clear w_32 bl_33 g_34 hk_38 hmbl
  go_wp2_with fail
  refine (HETolerance.out _ _ _ _ _ _ g_41.out.lies w_39.out.lies).mono ?_
  rintro e w10 ⟨rfl, hb_44⟩
  have w_45 := Lib.hid (w_39.out.below hb_44)
  have g_46 := Lib.hid (g_41.out.below hb_44)
  have BB_47 := Lib.hid (below_link BB.out hb_44 BB.out.size)
  clear BB
  have BB := BB_47
  clear BB_47
  have S_48 := Lib.hid (show w9.heap.size ≤ w10.heap.size from hb_44.size)
  clear w_39 g_41 hb_44
  go_wp2_with fail
  refine (HMTolerance.out _ _ _ _ _ 1 _ g_46.out Dg.out (by decide) HCr.out).mono ?_
  rintro e w11 ⟨rfl, hmg, hk_49⟩
  have w_50 := Lib.hid (w_45.out.but hk_49 (fun x hy hx => by have := S_2.out; have := S_5.out; have := S_9.out; have := S_13.out; have := S_18.out; have := S_24.out; have := S_30.out; have := S_37.out; have := S_43.out; have := S_48.out; have h1 := Rg.out _ hx; have h2 := Rw.out _ hy; omega))
  have g_51 := Lib.hid hmg
  have BB_52 := Lib.hid (KeptBut.below BB.out hk_49 BB.out.size (fun x hx => by have := S_2.out; have := S_5.out; have := S_9.out; have := S_13.out; have := S_18.out; have := S_24.out; have := S_30.out; have := S_37.out; have := S_43.out; have := S_48.out; have h1 := Rg.out _ hx; omega))
  clear BB
  have BB := BB_52
  clear BB_52
  have S_53 := Lib.hid (show w10.heap.size ≤ w11.heap.size from hk_49.size)
  clear w_45 g_46 hk_49 hmg
  go_wp2_with fail
  refine (HH.out _ _ _ g_51.out.lies).mono ?_
  rintro e w12 ⟨rfl, hb_54⟩
  have w_55 := Lib.hid (w_50.out.below hb_54)
  have g_56 := Lib.hid (g_51.out.below hb_54)
  have BB_57 := Lib.hid (below_link BB.out hb_54 BB.out.size)
  clear BB
  have BB := BB_57
  clear BB_57
  have S_58 := Lib.hid (show w11.heap.size ≤ w12.heap.size from hb_54.size)
  clear w_50 g_51 hb_54
  go_wp2_with fail
  refine (HTl.out _ (Al.out.below BB.out)).mono ?_
  rintro e w13 ⟨xel, rfl, rowel, hb_59⟩
  obtain ⟨Fel, oel, del, rel⟩ := rowel.own
  clear rowel
  have w_60 := Lib.hid (w_55.out.below hb_59)
  have g_61 := Lib.hid (g_56.out.below hb_59)
  have BB_62 := Lib.hid (below_link BB.out hb_59 BB.out.size)
  clear BB
  have BB := BB_62
  clear BB_62
  have S_63 := Lib.hid (show w12.heap.size ≤ w13.heap.size from hb_59.size)
  clear w_55 g_56 hb_59
  have Oel := Lib.hid oel
  have Rel := Lib.hid (show ∀ x ∈ Fel, w12.heap.size ≤ x ∧ x < w13.heap.size from rel)
  have Del := Lib.hid del
  clear oel rel del
  go_wp2_with fail
  refine (HI.out _ _ _ Oel.out.lies).mono ?_
  rintro e w14 ⟨xh, fh, Fh, rfl, oh, dh, hb_64⟩
  have rh := oh.range
  have w_65 := Lib.hid (w_60.out.below hb_64)
  have g_66 := Lib.hid (g_61.out.below hb_64)
  have el_67 := Lib.hid (Oel.out.below hb_64)
  have BB_68 := Lib.hid (below_link BB.out hb_64 BB.out.size)
  clear BB
  have BB := BB_68
  clear BB_68
  have S_69 := Lib.hid (show w13.heap.size ≤ w14.heap.size from hb_64.size)
  clear w_60 g_61 Oel hb_64
  have Oh := Lib.hid oh
  have Rh := Lib.hid (show ∀ x ∈ Fh, w13.heap.size ≤ x ∧ x < w14.heap.size from rh)
  have Dh := Lib.hid dh
  clear oh rh dh
  go_wp2_with fail
  refine (HETolerance.out _ _ _ _ _ _ Oh.out.lies w_65.out.lies).mono ?_
  rintro e w15 ⟨rfl, hb_70⟩
  have w_71 := Lib.hid (w_65.out.below hb_70)
  have g_72 := Lib.hid (g_66.out.below hb_70)
  have h_73 := Lib.hid (Oh.out.below hb_70)
  have BB_74 := Lib.hid (below_link BB.out hb_70 BB.out.size)
  clear BB
  have BB := BB_74
  clear BB_74
  have S_75 := Lib.hid (show w14.heap.size ≤ w15.heap.size from hb_70.size)
  clear w_65 g_66 Oh hb_70
  go_wp2_with fail
  refine (HH.out _ _ _ g_72.out.lies).mono ?_
  rintro e w16 ⟨rfl, hb_76⟩
  have w_77 := Lib.hid (w_71.out.below hb_76)
  have g_78 := Lib.hid (g_72.out.below hb_76)
  have h_79 := Lib.hid (h_73.out.below hb_76)
  have BB_80 := Lib.hid (below_link BB.out hb_76 BB.out.size)
  clear BB
  have BB := BB_80
  clear BB_80
  have S_81 := Lib.hid (show w15.heap.size ≤ w16.heap.size from hb_76.size)
  clear w_71 g_72 h_73 hb_76
  go_wp2_with fail
  go_ret
  exact ⟨rfl, BB.out⟩
end Go.Proofs.YtdgedclpaplgoaaDoor.fnExactSortTolerances
