/- FnExactHostNormal: the law returns true at every argument. Printed by gen/lawp.py. -/
import Derived.Test.YtcfbkfmkjggcdaaGreatDoorGA29
import Derived.Test.YtcfbkfmkjggcdaaGreatDoorGA26
import Derived.Test.YtcfbkfmkjggcdaaGreatDoorGA27
import Derived.Test.YtcfbkfmkjggcdaaGreatDoorGA8
import Derived.Test.YtcfbkfmkjggcdaaGreatDoorGA7
import Derived.Test.YtcfbkfmkjggcdaaGreatDoorGA6
import Derived.Deep.RegionHeld3
import Derived.Test.YtcfbkfmkjggcdaaGreatDoorGA30
namespace Go.Proofs.YtcfbkfmkjggcdaaGreatDoor.fnExactHostNormal
open Go.ChangeShapes Go.WideShapes Go.ChangeAt Go.RowKit
open lab ty need taint pod
set_option linter.unusedVariables false

set_option maxRecDepth 100000 in
set_option maxHeartbeats 32000000 in
theorem walk (n : Host) (fn : Nat) (un : List Value) (W : World) (hn : LiesS W fn un n.row) :
    Calls Tryz.prog 5 #[.agg un.toArray] W fun e w' => e = .returned (.bool true) ∧ Below W.heap.size W w' := by
  obtain ⟨un_0, un_1, un_2, un_3, un_4, un_5, rfl⟩ := of_Host (hn.1.trans (Host.row_length n))
  obtain ⟨w1, hw1⟩ : ∃ x, x = W.alloc (.cells #[un_0, un_1, un_2, un_3, un_4, un_5] 56) := ⟨_, rfl⟩
  have hb1 : Below W.heap.size W w1 := by subst hw1; exact (Below.refl _ _).alloc (Nat.le_refl _) _
  have hrn : RowE 56 w1 W.heap.size [un_0, un_1, un_2, un_3, un_4, un_5] := by subst hw1; exact RowE.new _ _ _
  have Hw1 := Lib.hid hw1
  have Hb1 := Lib.hid hb1
  have S0 := Lib.hid (show W.heap.size + 1 ≤ w1.heap.size by subst hw1; simp)
  have ARG := Lib.hid hrn
  have A := Lib.hid (hn.kept hb1.block)
  have BB := Lib.hid (Below.refl w1.heap.size w1)
  clear hb1 hw1 hrn hn
  obtain ⟨zn, hzn⟩ : ∃ x, x = n.wt := ⟨_, rfl⟩
  by_cases cn : (1048576 : Int) < (zn : Int)
  · skip
    have HZ := Lib.hid (fun w hw => szHost n fn [un_0, un_1, un_2, un_3, un_4, un_5] (1048576) w hw (by unfold LeftN; omega))
    rw [← hzn, cutN_no (show (1048576 : Int) < (zn : Int) by omega)] at HZ
    clear hzn cn
    go_enter Tryz.func5, Tryz.ntmps5
    have cn0 := (ARG.out.below BB.out).cell 0 _ rfl
    have cn1 := (ARG.out.below BB.out).cell 1 _ rfl
    have cn2 := (ARG.out.below BB.out).cell 2 _ rfl
    have cn3 := (ARG.out.below BB.out).cell 3 _ rfl
    have cn4 := (ARG.out.below BB.out).cell 4 _ rfl
    have cn5 := (ARG.out.below BB.out).cell 5 _ rfl
    rw [Hw1.out] at cn0 cn1 cn2 cn3 cn4 cn5
    go_wp2_with fail
    rw [← Hw1.out]
    refine (HZ.out _ (A.out.kept BB.out.block)).mono ?_
    rintro e w2 ⟨rfl, hb_1⟩
    have BB_2 := Lib.hid (below_link BB.out hb_1 BB.out.size)
    clear BB
    have BB := BB_2
    clear BB_2
    have S_3 := Lib.hid (show w1.heap.size ≤ w2.heap.size from hb_1.size)
    clear  cn0 cn1 cn2 cn3 cn4 cn5 hb_1
    go_wp2_with fail
    go_ret
    exact ⟨rfl, below_link Hb1.out BB.out Hb1.out.size⟩
  have HZ := Lib.hid (fun w hw => szHost n fn [un_0, un_1, un_2, un_3, un_4, un_5] (1048576) w hw (by unfold LeftN; omega))
  rw [← hzn, cutN_yes cn] at HZ
  have kn : ¬ 1048576 - (zn : Int) < 0 := by omega
  have tn : n.wt ≤ 1048576 := by omega
  obtain ⟨tO, hk0, hk1⟩ := hostN_small tn
  have HT := Lib.hid (fun w hw => toHost n fn [un_0, un_1, un_2, un_3, un_4, un_5] w hw tn)
  have HE := Lib.hid (fun x f1 f2 v1 v2 w h1 h2 => eqHost x f1 f2 v1 v2 w h1 h2)
  have HS := Lib.hid (fun g x w h => spec_hostN n g x w h tn tO)
  have HI := Lib.hid (fun g x w h => impl_hostN n g x w h tn tO)
  have HCn := Lib.hid hk0
  have HCr := Lib.hid hk1
  generalize hostN n = R at HS HI HCr
  obtain ⟨rv, rb⟩ := R
  have kcn : ¬ 1 + (n.kost : Int) < 0 := by omega
  have kr : ¬ 1 + (rv.kost : Int) < 0 := by omega
  have nb : (rb != rb) = false := bne_self_eq_false _
  have nk : ((1 + (rv.kost : Int)) != (1 + (rv.kost : Int))) = false := bne_self_eq_false _
  have HM := Lib.hid (fun x B f us F k w hown hnd h0 hk => mkHost x B f us F k w hown hnd h0 hk)
  have HMC := Lib.hid (fun x B f us F k w hown hnd h0 hk => (mkHostC x B f us F k w hown hnd h0 hk).mono fun _ _ ⟨a, b, c⟩ => And.intro a (And.intro b c.blocks))
  have HH := Lib.hid (fun f us w h => hdHost rv f us 1 w h (by decide) HCr.out)
  clear hzn cn tn tO hk0 hk1
  generalize 1048576 - (zn : Int) = yn at HZ kn
  go_enter Tryz.func5, Tryz.ntmps5
  have cn0 := (ARG.out.below BB.out).cell 0 _ rfl
  have cn1 := (ARG.out.below BB.out).cell 1 _ rfl
  have cn2 := (ARG.out.below BB.out).cell 2 _ rfl
  have cn3 := (ARG.out.below BB.out).cell 3 _ rfl
  have cn4 := (ARG.out.below BB.out).cell 4 _ rfl
  have cn5 := (ARG.out.below BB.out).cell 5 _ rfl
  rw [Hw1.out] at cn0 cn1 cn2 cn3 cn4 cn5
  go_wp2_with fail
  rw [← Hw1.out]
  refine (HZ.out _ (A.out.kept BB.out.block)).mono ?_
  rintro e w2 ⟨rfl, hb_1⟩
  have BB_2 := Lib.hid (below_link BB.out hb_1 BB.out.size)
  clear BB
  have BB := BB_2
  clear BB_2
  have S_3 := Lib.hid (show w1.heap.size ≤ w2.heap.size from hb_1.size)
  clear  cn0 cn1 cn2 cn3 cn4 cn5 hb_1
  have cn0 := (ARG.out.below BB.out).cell 0 _ rfl
  have cn1 := (ARG.out.below BB.out).cell 1 _ rfl
  have cn2 := (ARG.out.below BB.out).cell 2 _ rfl
  have cn3 := (ARG.out.below BB.out).cell 3 _ rfl
  have cn4 := (ARG.out.below BB.out).cell 4 _ rfl
  have cn5 := (ARG.out.below BB.out).cell 5 _ rfl
  go_wp2_with fail
  refine (HT.out _ (A.out.kept BB.out.block)).mono ?_
  rintro e w3 ⟨xa, Fa, rfl, oa, da, hb_4⟩
  have ra := oa.range
  have BB_5 := Lib.hid (below_link BB.out hb_4 BB.out.size)
  clear BB
  have BB := BB_5
  clear BB_5
  have S_6 := Lib.hid (show w2.heap.size ≤ w3.heap.size from hb_4.size)
  clear  cn0 cn1 cn2 cn3 cn4 cn5 hb_4
  obtain ⟨xa_0, xa_1, xa_2, xa_3, xa_4, xa_5, rfl⟩ := of_Host (oa.1.trans (Host.row_length n))
  have onea := Lib.hid oa.one
  have Oa := Lib.hid oa
  have Ra := Lib.hid (show ∀ x ∈ Fa, w2.heap.size ≤ x ∧ x < w3.heap.size from ra)
  have Da := Lib.hid da
  clear oa ra da
  go_wp2_with fail
  refine (HS.out _ _ _ Oa.out.lies).mono ?_
  rintro e w4 ⟨xw, Qw, Fw, rfl, ow, dw, hb_7⟩
  have rw := ow.range
  have a_8 := Lib.hid (Oa.out.below hb_7)
  have BB_9 := Lib.hid (below_link BB.out hb_7 BB.out.size)
  clear BB
  have BB := BB_9
  clear BB_9
  have S_10 := Lib.hid (show w3.heap.size ≤ w4.heap.size from hb_7.size)
  clear Oa  hb_7
  obtain ⟨xw_0, xw_1, xw_2, xw_3, xw_4, xw_5, rfl⟩ := of_Host (ow.1.trans (Host.row_length rv))
  have onew := Lib.hid ow.one
  have Ow := Lib.hid ow
  have Rw := Lib.hid (show ∀ x ∈ Fw, w3.heap.size ≤ x ∧ x < w4.heap.size from rw)
  have Dw := Lib.hid dw
  clear ow rw dw
  obtain ⟨w5, hw5⟩ : ∃ x, x = w4.alloc (.cells #[xw_0, xw_1, xw_2, xw_3, xw_4, xw_5] 32) := ⟨_, rfl⟩
  have hb_11 : Below w4.heap.size w4 w5 := by subst hw5; exact (Below.refl _ _).alloc (Nat.le_refl _) _
  have row_12 := Lib.hid (show RowE 32 w5 w4.heap.size [xw_0, xw_1, xw_2, xw_3, xw_4, xw_5] by subst hw5; exact RowE.new _ _ _)
  have Hw5 := Lib.hid hw5
  clear hw5
  have S_13 := Lib.hid (show w4.heap.size < w5.heap.size from heap_lt row_12.out)
  have w_14 := Lib.hid (Ow.out.below hb_11)
  have BB_15 := Lib.hid (below_link BB.out hb_11 BB.out.size)
  clear BB
  have BB := BB_15
  clear BB_15
  have S_16 := Lib.hid (show w4.heap.size ≤ w5.heap.size from hb_11.size)
  clear Ow  hb_11
  have h1w := onew.out
  have cn0 := (ARG.out.below BB.out).cell 0 _ rfl
  have cn1 := (ARG.out.below BB.out).cell 1 _ rfl
  have cn2 := (ARG.out.below BB.out).cell 2 _ rfl
  have cn3 := (ARG.out.below BB.out).cell 3 _ rfl
  have cn4 := (ARG.out.below BB.out).cell 4 _ rfl
  have cn5 := (ARG.out.below BB.out).cell 5 _ rfl
  rw [Hw5.out] at cn0 cn1 cn2 cn3 cn4 cn5
  go_wp2_with (first | (refine wpList_store_row rfl 32 _ _ rfl w4.heap.size #[xw_0, xw_1, xw_2, xw_3, xw_4, xw_5] rfl rfl 32 _ (heap_alloc_new w4 _) sizeHost rfl h1w ?_; rw [World.setRow_alloc_new]) | fail)
  rw [← Hw5.out]
  refine (HT.out _ (A.out.kept BB.out.block)).mono ?_
  rintro e w6 ⟨xx, Fx, rfl, ox, dx, hb_17⟩
  have rx := ox.range
  have w_18 := Lib.hid (w_14.out.below hb_17)
  have w_19 := Lib.hid (row_12.out.below hb_17)
  have BB_20 := Lib.hid (below_link BB.out hb_17 BB.out.size)
  clear BB
  have BB := BB_20
  clear BB_20
  have S_21 := Lib.hid (show w5.heap.size ≤ w6.heap.size from hb_17.size)
  clear w_14 row_12 cn0 cn1 cn2 cn3 cn4 cn5 hb_17
  obtain ⟨xx_0, xx_1, xx_2, xx_3, xx_4, xx_5, rfl⟩ := of_Host (ox.1.trans (Host.row_length n))
  have onex := Lib.hid ox.one
  have Ox := Lib.hid ox
  have Rx := Lib.hid (show ∀ x ∈ Fx, w5.heap.size ≤ x ∧ x < w6.heap.size from rx)
  have Dx := Lib.hid dx
  clear ox rx dx
  obtain ⟨w7, hw7⟩ : ∃ x, x = w6.alloc (.cells #[xx_0, xx_1, xx_2, xx_3, xx_4, xx_5] 32) := ⟨_, rfl⟩
  have hb_22 : Below w6.heap.size w6 w7 := by subst hw7; exact (Below.refl _ _).alloc (Nat.le_refl _) _
  have row_23 := Lib.hid (show RowE 32 w7 w6.heap.size [xx_0, xx_1, xx_2, xx_3, xx_4, xx_5] by subst hw7; exact RowE.new _ _ _)
  have Hw7 := Lib.hid hw7
  clear hw7
  have S_24 := Lib.hid (show w6.heap.size < w7.heap.size from heap_lt row_23.out)
  have w_25 := Lib.hid (w_18.out.below hb_22)
  have x_26 := Lib.hid (Ox.out.below hb_22)
  have w_27 := Lib.hid (w_19.out.below hb_22)
  have BB_28 := Lib.hid (below_link BB.out hb_22 BB.out.size)
  clear BB
  have BB := BB_28
  clear BB_28
  have S_29 := Lib.hid (show w6.heap.size ≤ w7.heap.size from hb_22.size)
  clear w_18 Ox w_19  hb_22
  have h1x := onex.out
  have dx0 := row_23.out.cell 0 _ rfl
  have dx1 := row_23.out.cell 1 _ rfl
  have dx2 := row_23.out.cell 2 _ rfl
  have dx3 := row_23.out.cell 3 _ rfl
  have dx4 := row_23.out.cell 4 _ rfl
  have dx5 := row_23.out.cell 5 _ rfl
  rw [Hw7.out] at dx0 dx1 dx2 dx3 dx4 dx5
  go_wp2_with (first | (refine wpList_store_row rfl 32 _ _ rfl w6.heap.size #[xx_0, xx_1, xx_2, xx_3, xx_4, xx_5] rfl rfl 32 _ (heap_alloc_new w6 _) sizeHost rfl h1x ?_; rw [World.setRow_alloc_new]) | fail)
  rw [← Hw7.out]
  refine (HI.out _ _ _ x_26.out.lies).mono ?_
  rintro e w8 ⟨xg, Qg, Fg, rfl, og, dg, hb_30⟩
  have rg := og.ranges
  have w_31 := Lib.hid (w_25.out.below hb_30)
  have x_32 := Lib.hid (x_26.out.below hb_30)
  have w_33 := Lib.hid (w_27.out.below hb_30)
  have x_34 := Lib.hid (row_23.out.below hb_30)
  have BB_35 := Lib.hid (below_link BB.out hb_30 BB.out.size)
  clear BB
  have BB := BB_35
  clear BB_35
  have S_36 := Lib.hid (show w7.heap.size ≤ w8.heap.size from hb_30.size)
  clear w_25 x_26 w_27 row_23 dx0 dx1 dx2 dx3 dx4 dx5 hb_30
  obtain ⟨xg_0, xg_1, xg_2, xg_3, xg_4, xg_5, rfl⟩ := of_Host (og.1.trans (Host.row_length rv))
  have oneg := Lib.hid og.ones1
  have Og := Lib.hid og
  have Rg := Lib.hid (show ∀ x ∈ blkC Fg, w7.heap.size ≤ x ∧ x < w8.heap.size from rg)
  have Dg := Lib.hid dg
  clear og rg dg
  obtain ⟨w9, hw9⟩ : ∃ x, x = w8.alloc (.cells #[xg_0, xg_1, xg_2, xg_3, xg_4, xg_5] 32) := ⟨_, rfl⟩
  have hb_37 : Below w8.heap.size w8 w9 := by subst hw9; exact (Below.refl _ _).alloc (Nat.le_refl _) _
  have row_38 := Lib.hid (show RowE 32 w9 w8.heap.size [xg_0, xg_1, xg_2, xg_3, xg_4, xg_5] by subst hw9; exact RowE.new _ _ _)
  have Hw9 := Lib.hid hw9
  clear hw9
  have S_39 := Lib.hid (show w8.heap.size < w9.heap.size from heap_lt row_38.out)
  have w_40 := Lib.hid (w_31.out.below hb_37)
  have x_41 := Lib.hid (x_32.out.below hb_37)
  have g_42 := Lib.hid (Og.out.below hb_37)
  have w_43 := Lib.hid (w_33.out.below hb_37)
  have x_44 := Lib.hid (x_34.out.below hb_37)
  have BB_45 := Lib.hid (below_link BB.out hb_37 BB.out.size)
  clear BB
  have BB := BB_45
  clear BB_45
  have S_46 := Lib.hid (show w8.heap.size ≤ w9.heap.size from hb_37.size)
  clear w_31 x_32 Og w_33 x_34  hb_37
  have h1g := oneg.out
  have dg0 := row_38.out.cell 0 _ rfl
  have dg1 := row_38.out.cell 1 _ rfl
  have dg2 := row_38.out.cell 2 _ rfl
  have dg3 := row_38.out.cell 3 _ rfl
  have dg4 := row_38.out.cell 4 _ rfl
  have dg5 := row_38.out.cell 5 _ rfl
  rw [Hw9.out] at dg0 dg1 dg2 dg3 dg4 dg5
  have dw0 := w_43.out.cell 0 _ rfl
  have dw1 := w_43.out.cell 1 _ rfl
  have dw2 := w_43.out.cell 2 _ rfl
  have dw3 := w_43.out.cell 3 _ rfl
  have dw4 := w_43.out.cell 4 _ rfl
  have dw5 := w_43.out.cell 5 _ rfl
  rw [Hw9.out] at dw0 dw1 dw2 dw3 dw4 dw5
  go_wp2_with (first | (refine wpList_store_row rfl 32 _ _ rfl w8.heap.size #[xg_0, xg_1, xg_2, xg_3, xg_4, xg_5] rfl rfl 32 _ (heap_alloc_new w8 _) sizeHost rfl h1g ?_; rw [World.setRow_alloc_new]) | fail)
  rw [← Hw9.out]
  refine (HE.out rv _ _ _ _ _ g_42.out.lies w_40.out.lies).mono ?_
  rintro e w10 ⟨rfl, hb_47⟩
  have w_48 := Lib.hid (w_40.out.below hb_47)
  have x_49 := Lib.hid (x_41.out.below hb_47)
  have g_50 := Lib.hid (g_42.out.below hb_47)
  have w_51 := Lib.hid (w_43.out.below hb_47)
  have x_52 := Lib.hid (x_44.out.below hb_47)
  have g_53 := Lib.hid (row_38.out.below hb_47)
  have BB_54 := Lib.hid (below_link BB.out hb_47 BB.out.size)
  clear BB
  have BB := BB_54
  clear BB_54
  have S_55 := Lib.hid (show w9.heap.size ≤ w10.heap.size from hb_47.size)
  clear w_40 x_41 g_42 w_43 x_44 row_38 dg0 dg1 dg2 dg3 dg4 dg5 dw0 dw1 dw2 dw3 dw4 dw5 hb_47
  have dx0 := x_52.out.cell 0 _ rfl
  have dx1 := x_52.out.cell 1 _ rfl
  have dx2 := x_52.out.cell 2 _ rfl
  have dx3 := x_52.out.cell 3 _ rfl
  have dx4 := x_52.out.cell 4 _ rfl
  have dx5 := x_52.out.cell 5 _ rfl
  have cn0 := (ARG.out.below BB.out).cell 0 _ rfl
  have cn1 := (ARG.out.below BB.out).cell 1 _ rfl
  have cn2 := (ARG.out.below BB.out).cell 2 _ rfl
  have cn3 := (ARG.out.below BB.out).cell 3 _ rfl
  have cn4 := (ARG.out.below BB.out).cell 4 _ rfl
  have cn5 := (ARG.out.below BB.out).cell 5 _ rfl
  go_wp2_with fail
  go_region_law (go_simp; first | (go_at_call 26; refine (HT.out _ (A.out.kept (BB.out.trans ((Below.refl _ _).drew.mono BB.out.size)).block)).mono ?_; rintro e m_56 ⟨usm_56, Fm_56, rfl, hom_56, _, hb_57⟩; have qm_560 := (x_52.out.below ((Below.refl w10.heap.size w10).drew.trans (hb_57.mono (Nat.le_refl _)))).cell 0 _ rfl; have qm_561 := (x_52.out.below ((Below.refl w10.heap.size w10).drew.trans (hb_57.mono (Nat.le_refl _)))).cell 1 _ rfl; have qm_562 := (x_52.out.below ((Below.refl w10.heap.size w10).drew.trans (hb_57.mono (Nat.le_refl _)))).cell 2 _ rfl; have qm_563 := (x_52.out.below ((Below.refl w10.heap.size w10).drew.trans (hb_57.mono (Nat.le_refl _)))).cell 3 _ rfl; have qm_564 := (x_52.out.below ((Below.refl w10.heap.size w10).drew.trans (hb_57.mono (Nat.le_refl _)))).cell 4 _ rfl; have qm_565 := (x_52.out.below ((Below.refl w10.heap.size w10).drew.trans (hb_57.mono (Nat.le_refl _)))).cell 5 _ rfl) | (go_at_call 27; refine (HE.out n _ _ _ _ _ (x_49.out.lies.kept ((Below.refl _ _).drew.trans (hb_57.mono (Nat.le_refl _))).block) hom_56.lies).mono ?_; rintro e w11 ⟨rfl, hb_59⟩))
  all_goals
    have hb_58 : Below w10.heap.size w10 w11 := below_link ((Below.refl _ _).drew.trans (hb_57.mono (Nat.le_refl _))) hb_59 hb_57.size
    clear hom_56 hb_57 hb_59 qm_560 qm_561 qm_562 qm_563 qm_564 qm_565
    have w_60 := Lib.hid (w_48.out.below hb_58)
    have x_61 := Lib.hid (x_49.out.below hb_58)
    have g_62 := Lib.hid (g_50.out.below hb_58)
    have w_63 := Lib.hid (w_51.out.below hb_58)
    have x_64 := Lib.hid (x_52.out.below hb_58)
    have g_65 := Lib.hid (g_53.out.below hb_58)
    have BB_66 := Lib.hid (below_link BB.out hb_58 BB.out.size)
    clear BB
    have BB := BB_66
    clear BB_66
    have S_67 := Lib.hid (show w10.heap.size ≤ w11.heap.size from hb_58.size)
    clear w_48 x_49 g_50 w_51 x_52 g_53 dx0 dx1 dx2 dx3 dx4 dx5 cn0 cn1 cn2 cn3 cn4 cn5 hb_58
    have dx0 := x_64.out.cell 0 _ rfl
    have dx1 := x_64.out.cell 1 _ rfl
    have dx2 := x_64.out.cell 2 _ rfl
    have dx3 := x_64.out.cell 3 _ rfl
    have dx4 := x_64.out.cell 4 _ rfl
    have dx5 := x_64.out.cell 5 _ rfl
    go_wp2_with fail
    refine (HM.out n _ _ _ _ 1 _ x_61.out Dx.out (by decide) HCn.out).mono ?_
    rintro e w12 ⟨rfl, hmx, hk_68⟩
    have w_69 := Lib.hid (w_60.out.but hk_68 (fun x hy hx => by have := S0.out; have := S_3.out; have := S_6.out; have := S_10.out; have := S_13.out; have := S_16.out; have := S_21.out; have := S_24.out; have := S_29.out; have := S_36.out; have := S_39.out; have := S_46.out; have := S_55.out; have := S_67.out; have h1 := Rx.out _ hx; have h2 := Rw.out _ hy; omega))
    have x_70 := Lib.hid hmx
    have g_71 := Lib.hid (g_62.out.but hk_68 (fun x hy hx => by have := S0.out; have := S_3.out; have := S_6.out; have := S_10.out; have := S_13.out; have := S_16.out; have := S_21.out; have := S_24.out; have := S_29.out; have := S_36.out; have := S_39.out; have := S_46.out; have := S_55.out; have := S_67.out; have h1 := Rx.out _ hx; have h2 := Rg.out _ hy; omega))
    have row_72 := Lib.hid (show RowE 32 w12 w4.heap.size [xw_0, xw_1, xw_2, xw_3, xw_4, xw_5] from (hk_68.block _ (heap_lt w_63.out) (fun hx => by have := S0.out; have := S_3.out; have := S_6.out; have := S_10.out; have := S_13.out; have := S_16.out; have := S_21.out; have := S_24.out; have := S_29.out; have := S_36.out; have := S_39.out; have := S_46.out; have := S_55.out; have := S_67.out; have h1 := Rx.out _ hx; omega)).trans w_63.out)
    have row_73 := Lib.hid (show RowE 32 w12 w6.heap.size [xx_0, xx_1, xx_2, xx_3, xx_4, xx_5] from (hk_68.block _ (heap_lt x_64.out) (fun hx => by have := S0.out; have := S_3.out; have := S_6.out; have := S_10.out; have := S_13.out; have := S_16.out; have := S_21.out; have := S_24.out; have := S_29.out; have := S_36.out; have := S_39.out; have := S_46.out; have := S_55.out; have := S_67.out; have h1 := Rx.out _ hx; omega)).trans x_64.out)
    have row_74 := Lib.hid (show RowE 32 w12 w8.heap.size [xg_0, xg_1, xg_2, xg_3, xg_4, xg_5] from (hk_68.block _ (heap_lt g_65.out) (fun hx => by have := S0.out; have := S_3.out; have := S_6.out; have := S_10.out; have := S_13.out; have := S_16.out; have := S_21.out; have := S_24.out; have := S_29.out; have := S_36.out; have := S_39.out; have := S_46.out; have := S_55.out; have := S_67.out; have h1 := Rx.out _ hx; omega)).trans g_65.out)
    have BB_75 := Lib.hid (KeptBut.below BB.out hk_68 BB.out.size (fun x hx => by have := S0.out; have := S_3.out; have := S_6.out; have := S_10.out; have := S_13.out; have := S_16.out; have := S_21.out; have := S_24.out; have := S_29.out; have := S_36.out; have := S_39.out; have := S_46.out; have := S_55.out; have := S_67.out; have h1 := Rx.out _ hx; omega))
    clear BB
    have BB := BB_75
    clear BB_75
    have S_76 := Lib.hid (show w11.heap.size ≤ w12.heap.size from hk_68.size)
    clear w_60 x_61 g_62 w_63 x_64 g_65 hk_68 hmx dx0 dx1 dx2 dx3 dx4 dx5
    have dg0 := row_74.out.cell 0 _ rfl
    have dg1 := row_74.out.cell 1 _ rfl
    have dg2 := row_74.out.cell 2 _ rfl
    have dg3 := row_74.out.cell 3 _ rfl
    have dg4 := row_74.out.cell 4 _ rfl
    have dg5 := row_74.out.cell 5 _ rfl
    have dw0 := row_72.out.cell 0 _ rfl
    have dw1 := row_72.out.cell 1 _ rfl
    have dw2 := row_72.out.cell 2 _ rfl
    have dw3 := row_72.out.cell 3 _ rfl
    have dw4 := row_72.out.cell 4 _ rfl
    have dw5 := row_72.out.cell 5 _ rfl
    go_wp2_with fail
    refine (HE.out rv _ _ _ _ _ g_71.out.lies w_69.out.lies).mono ?_
    rintro e w13 ⟨rfl, hb_77⟩
    have w_78 := Lib.hid (w_69.out.below hb_77)
    have g_79 := Lib.hid (g_71.out.below hb_77)
    have w_80 := Lib.hid (row_72.out.below hb_77)
    have g_81 := Lib.hid (row_74.out.below hb_77)
    have BB_82 := Lib.hid (below_link BB.out hb_77 BB.out.size)
    clear BB
    have BB := BB_82
    clear BB_82
    have S_83 := Lib.hid (show w12.heap.size ≤ w13.heap.size from hb_77.size)
    clear w_69 g_71 row_72 row_74 dg0 dg1 dg2 dg3 dg4 dg5 dw0 dw1 dw2 dw3 dw4 dw5 hb_77
    have dg0 := g_81.out.cell 0 _ rfl
    have dg1 := g_81.out.cell 1 _ rfl
    have dg2 := g_81.out.cell 2 _ rfl
    have dg3 := g_81.out.cell 3 _ rfl
    have dg4 := g_81.out.cell 4 _ rfl
    have dg5 := g_81.out.cell 5 _ rfl
    go_wp2_with fail
    refine (HMC.out rv _ _ _ _ 1 _ g_79.out Dg.out (by decide) HCr.out).mono ?_
    rintro e w14 ⟨rfl, hmg, hk_84⟩
    have w_85 := Lib.hid (w_78.out.but hk_84 (fun x hy hx => by have := S0.out; have := S_3.out; have := S_6.out; have := S_10.out; have := S_13.out; have := S_16.out; have := S_21.out; have := S_24.out; have := S_29.out; have := S_36.out; have := S_39.out; have := S_46.out; have := S_55.out; have := S_67.out; have := S_76.out; have := S_83.out; have h1 := Rg.out _ hx; have h2 := Rw.out _ hy; omega))
    have g_86 := Lib.hid hmg
    have row_87 := Lib.hid (show RowE 32 w14 w4.heap.size [xw_0, xw_1, xw_2, xw_3, xw_4, xw_5] from (hk_84.block _ (heap_lt w_80.out) (fun hx => by have := S0.out; have := S_3.out; have := S_6.out; have := S_10.out; have := S_13.out; have := S_16.out; have := S_21.out; have := S_24.out; have := S_29.out; have := S_36.out; have := S_39.out; have := S_46.out; have := S_55.out; have := S_67.out; have := S_76.out; have := S_83.out; have h1 := Rg.out _ hx; omega)).trans w_80.out)
    have row_88 := Lib.hid (show RowE 32 w14 w8.heap.size [xg_0, xg_1, xg_2, xg_3, xg_4, xg_5] from (hk_84.block _ (heap_lt g_81.out) (fun hx => by have := S0.out; have := S_3.out; have := S_6.out; have := S_10.out; have := S_13.out; have := S_16.out; have := S_21.out; have := S_24.out; have := S_29.out; have := S_36.out; have := S_39.out; have := S_46.out; have := S_55.out; have := S_67.out; have := S_76.out; have := S_83.out; have h1 := Rg.out _ hx; omega)).trans g_81.out)
    have BB_89 := Lib.hid (KeptBut.below BB.out hk_84 BB.out.size (fun x hx => by have := S0.out; have := S_3.out; have := S_6.out; have := S_10.out; have := S_13.out; have := S_16.out; have := S_21.out; have := S_24.out; have := S_29.out; have := S_36.out; have := S_39.out; have := S_46.out; have := S_55.out; have := S_67.out; have := S_76.out; have := S_83.out; have h1 := Rg.out _ hx; omega))
    clear BB
    have BB := BB_89
    clear BB_89
    have S_90 := Lib.hid (show w13.heap.size ≤ w14.heap.size from hk_84.size)
    clear w_78 g_79 w_80 g_81 hk_84 hmg dg0 dg1 dg2 dg3 dg4 dg5
    have dg0 := row_88.out.cell 0 _ rfl
    have dg1 := row_88.out.cell 1 _ rfl
    have dg2 := row_88.out.cell 2 _ rfl
    have dg3 := row_88.out.cell 3 _ rfl
    have dg4 := row_88.out.cell 4 _ rfl
    have dg5 := row_88.out.cell 5 _ rfl
    go_wp2_with fail
    refine (HH.out _ _ _ g_86.out.lies).mono ?_
    rintro e w15 ⟨rfl, hb_91⟩
    have w_92 := Lib.hid (w_85.out.below hb_91)
    have g_93 := Lib.hid (g_86.out.below hb_91)
    have w_94 := Lib.hid (row_87.out.below hb_91)
    have g_95 := Lib.hid (row_88.out.below hb_91)
    have BB_96 := Lib.hid (below_link BB.out hb_91 BB.out.size)
    clear BB
    have BB := BB_96
    clear BB_96
    have S_97 := Lib.hid (show w14.heap.size ≤ w15.heap.size from hb_91.size)
    clear w_85 g_86 row_87 row_88 dg0 dg1 dg2 dg3 dg4 dg5 hb_91
    have cn0 := (ARG.out.below BB.out).cell 0 _ rfl
    have cn1 := (ARG.out.below BB.out).cell 1 _ rfl
    have cn2 := (ARG.out.below BB.out).cell 2 _ rfl
    have cn3 := (ARG.out.below BB.out).cell 3 _ rfl
    have cn4 := (ARG.out.below BB.out).cell 4 _ rfl
    have cn5 := (ARG.out.below BB.out).cell 5 _ rfl
    go_wp2_with fail
    refine (HT.out _ (A.out.kept BB.out.block)).mono ?_
    rintro e w16 ⟨xe, Fe, rfl, oe, de, hb_98⟩
    have re := oe.range
    have w_99 := Lib.hid (w_92.out.below hb_98)
    have g_100 := Lib.hid (g_93.out.below hb_98)
    have w_101 := Lib.hid (w_94.out.below hb_98)
    have g_102 := Lib.hid (g_95.out.below hb_98)
    have BB_103 := Lib.hid (below_link BB.out hb_98 BB.out.size)
    clear BB
    have BB := BB_103
    clear BB_103
    have S_104 := Lib.hid (show w15.heap.size ≤ w16.heap.size from hb_98.size)
    clear w_92 g_93 w_94 g_95 cn0 cn1 cn2 cn3 cn4 cn5 hb_98
    obtain ⟨xe_0, xe_1, xe_2, xe_3, xe_4, xe_5, rfl⟩ := of_Host (oe.1.trans (Host.row_length n))
    have onee := Lib.hid oe.one
    have Oe := Lib.hid oe
    have Re := Lib.hid (show ∀ x ∈ Fe, w15.heap.size ≤ x ∧ x < w16.heap.size from re)
    have De := Lib.hid de
    clear oe re de
    go_wp2_with fail
    refine (HI.out _ _ _ Oe.out.lies).mono ?_
    rintro e w17 ⟨xh, Qh, Fh, rfl, oh, dh, hb_105⟩
    have rh := oh.ranges
    have w_106 := Lib.hid (w_99.out.below hb_105)
    have g_107 := Lib.hid (g_100.out.below hb_105)
    have e_108 := Lib.hid (Oe.out.below hb_105)
    have w_109 := Lib.hid (w_101.out.below hb_105)
    have g_110 := Lib.hid (g_102.out.below hb_105)
    have BB_111 := Lib.hid (below_link BB.out hb_105 BB.out.size)
    clear BB
    have BB := BB_111
    clear BB_111
    have S_112 := Lib.hid (show w16.heap.size ≤ w17.heap.size from hb_105.size)
    clear w_99 g_100 Oe w_101 g_102  hb_105
    obtain ⟨xh_0, xh_1, xh_2, xh_3, xh_4, xh_5, rfl⟩ := of_Host (oh.1.trans (Host.row_length rv))
    have oneh := Lib.hid oh.ones1
    have Oh := Lib.hid oh
    have Rh := Lib.hid (show ∀ x ∈ blkC Fh, w16.heap.size ≤ x ∧ x < w17.heap.size from rh)
    have Dh := Lib.hid dh
    clear oh rh dh
    obtain ⟨w18, hw18⟩ : ∃ x, x = w17.alloc (.cells #[xh_0, xh_1, xh_2, xh_3, xh_4, xh_5] 32) := ⟨_, rfl⟩
    have hb_113 : Below w17.heap.size w17 w18 := by subst hw18; exact (Below.refl _ _).alloc (Nat.le_refl _) _
    have row_114 := Lib.hid (show RowE 32 w18 w17.heap.size [xh_0, xh_1, xh_2, xh_3, xh_4, xh_5] by subst hw18; exact RowE.new _ _ _)
    have Hw18 := Lib.hid hw18
    clear hw18
    have S_115 := Lib.hid (show w17.heap.size < w18.heap.size from heap_lt row_114.out)
    have w_116 := Lib.hid (w_106.out.below hb_113)
    have g_117 := Lib.hid (g_107.out.below hb_113)
    have h_118 := Lib.hid (Oh.out.below hb_113)
    have w_119 := Lib.hid (w_109.out.below hb_113)
    have g_120 := Lib.hid (g_110.out.below hb_113)
    have BB_121 := Lib.hid (below_link BB.out hb_113 BB.out.size)
    clear BB
    have BB := BB_121
    clear BB_121
    have S_122 := Lib.hid (show w17.heap.size ≤ w18.heap.size from hb_113.size)
    clear w_106 g_107 Oh w_109 g_110  hb_113
    have h1h := oneh.out
    have dh0 := row_114.out.cell 0 _ rfl
    have dh1 := row_114.out.cell 1 _ rfl
    have dh2 := row_114.out.cell 2 _ rfl
    have dh3 := row_114.out.cell 3 _ rfl
    have dh4 := row_114.out.cell 4 _ rfl
    have dh5 := row_114.out.cell 5 _ rfl
    rw [Hw18.out] at dh0 dh1 dh2 dh3 dh4 dh5
    have dw0 := w_119.out.cell 0 _ rfl
    have dw1 := w_119.out.cell 1 _ rfl
    have dw2 := w_119.out.cell 2 _ rfl
    have dw3 := w_119.out.cell 3 _ rfl
    have dw4 := w_119.out.cell 4 _ rfl
    have dw5 := w_119.out.cell 5 _ rfl
    rw [Hw18.out] at dw0 dw1 dw2 dw3 dw4 dw5
    go_wp2_with (first | (refine wpList_store_row rfl 32 _ _ rfl w17.heap.size #[xh_0, xh_1, xh_2, xh_3, xh_4, xh_5] rfl rfl 32 _ (heap_alloc_new w17 _) sizeHost rfl h1h ?_; rw [World.setRow_alloc_new]) | fail)
    rw [← Hw18.out]
    refine (HE.out rv _ _ _ _ _ h_118.out.lies w_116.out.lies).mono ?_
    rintro e w19 ⟨rfl, hb_123⟩
    have w_124 := Lib.hid (w_116.out.below hb_123)
    have g_125 := Lib.hid (g_117.out.below hb_123)
    have h_126 := Lib.hid (h_118.out.below hb_123)
    have w_127 := Lib.hid (w_119.out.below hb_123)
    have g_128 := Lib.hid (g_120.out.below hb_123)
    have h_129 := Lib.hid (row_114.out.below hb_123)
    have BB_130 := Lib.hid (below_link BB.out hb_123 BB.out.size)
    clear BB
    have BB := BB_130
    clear BB_130
    have S_131 := Lib.hid (show w18.heap.size ≤ w19.heap.size from hb_123.size)
    clear w_116 g_117 h_118 w_119 g_120 row_114 dh0 dh1 dh2 dh3 dh4 dh5 dw0 dw1 dw2 dw3 dw4 dw5 hb_123
    have dg0 := g_128.out.cell 0 _ rfl
    have dg1 := g_128.out.cell 1 _ rfl
    have dg2 := g_128.out.cell 2 _ rfl
    have dg3 := g_128.out.cell 3 _ rfl
    have dg4 := g_128.out.cell 4 _ rfl
    have dg5 := g_128.out.cell 5 _ rfl
    go_wp2_with fail
    refine (HH.out _ _ _ g_125.out.lies).mono ?_
    rintro e w20 ⟨rfl, hb_132⟩
    have w_133 := Lib.hid (w_124.out.below hb_132)
    have g_134 := Lib.hid (g_125.out.below hb_132)
    have h_135 := Lib.hid (h_126.out.below hb_132)
    have w_136 := Lib.hid (w_127.out.below hb_132)
    have g_137 := Lib.hid (g_128.out.below hb_132)
    have h_138 := Lib.hid (h_129.out.below hb_132)
    have BB_139 := Lib.hid (below_link BB.out hb_132 BB.out.size)
    clear BB
    have BB := BB_139
    clear BB_139
    have S_140 := Lib.hid (show w19.heap.size ≤ w20.heap.size from hb_132.size)
    clear w_124 g_125 h_126 w_127 g_128 h_129 dg0 dg1 dg2 dg3 dg4 dg5 hb_132
    go_wp2_with fail
    go_ret
    exact ⟨rfl, below_link Hb1.out BB.out Hb1.out.size⟩
end Go.Proofs.YtcfbkfmkjggcdaaGreatDoor.fnExactHostNormal
