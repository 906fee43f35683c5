/- FnExactHostOk: the law returns true at every argument. Printed by gen/lawn.py. -/
import Derived.Test.YtcfbkfmkjggcdaaDoorGA17
import Derived.Test.YtcfbkfmkjggcdaaDoorGA18
import Derived.Test.YtcfbkfmkjggcdaaDoorGA7
import Derived.Test.YtcfbkfmkjggcdaaDoorGA6
import Derived.Deep.RegionHeld3
import Derived.Test.YtcfbkfmkjggcdaaDoorGA19
namespace Go.Proofs.YtcfbkfmkjggcdaaDoor.fnExactHostOk
open Go.ChangeShapes Go.WideShapes Go.ChangeAt Go.RowKit
open lab ty taint need pod
set_option linter.unusedVariables false

set_option maxRecDepth 100000 in
set_option maxHeartbeats 16000000 in
theorem walk (n : Host) (fn : Nat) (un : List Value) (W : World) (hn : LiesS W fn un n.row) :
    Calls Tryd.prog 4 #[.agg un.toArray] W fun e w' => e = .returned (.bool true) ∧ Below W.heap.size W w' := by
  obtain ⟨un_0, un_1, un_2, un_3, un_4, un_5, rfl⟩ := of_Host (hn.1.trans (Host.row_length n))
  obtain ⟨w1, hw1⟩ : ∃ x, x = (W).alloc (.cells #[un_0, un_1, un_2, un_3, un_4, un_5] 39) := ⟨_, rfl⟩
  have hb1 : Below W.heap.size W w1 := by subst hw1; exact ((Below.refl _ _).alloc (by simp) _)
  have hrn : RowE 39 w1 W.heap.size [un_0, un_1, un_2, un_3, un_4, un_5] := by
    subst hw1
    have h := (RowE.new 39 W [un_0, un_1, un_2, un_3, un_4, un_5])
    simpa using h
  have Hw1 := Lib.hid hw1
  have Hb1 := Lib.hid hb1
  have S0 := Lib.hid (show W.heap.size + 1 ≤ w1.heap.size by subst hw1; simp)
  have ARGn := Lib.hid hrn
  have An := Lib.hid (hn.kept hb1.block)
  have BB := Lib.hid (Below.refl w1.heap.size w1)
  clear hb1 hw1 hrn hn
  obtain ⟨zn, hzn⟩ : ∃ x, x = n.wt := ⟨_, rfl⟩
  by_cases cn : (1048576 : Int) < (zn : Int)
  · skip
    have HZn := Lib.hid (fun w hw => szHost n fn [un_0, un_1, un_2, un_3, un_4, un_5] (1048576) w hw (by unfold LeftN; omega))
    rw [← hzn, cutN_no (show (1048576 : Int) < (zn : Int) by omega)] at HZn
    clear hzn cn
    go_enter Tryd.func4, Tryd.ntmps4
    have cn0 := (ARGn.out.below BB.out).cell 0 _ rfl
    have cn1 := (ARGn.out.below BB.out).cell 1 _ rfl
    have cn2 := (ARGn.out.below BB.out).cell 2 _ rfl
    have cn3 := (ARGn.out.below BB.out).cell 3 _ rfl
    have cn4 := (ARGn.out.below BB.out).cell 4 _ rfl
    have cn5 := (ARGn.out.below BB.out).cell 5 _ rfl
    rw [Hw1.out] at cn0 cn1 cn2 cn3 cn4 cn5
    go_wp2_with fail
    rw [← Hw1.out]
    refine (HZn.out _ (An.out.kept BB.out.block)).mono ?_
    rintro e w2 ⟨rfl, hb_1⟩
    have BB_2 := Lib.hid (below_link BB.out hb_1 BB.out.size)
    clear BB
    have BB := BB_2
    clear BB_2
    have S_3 := Lib.hid (show w1.heap.size ≤ w2.heap.size from hb_1.size)
    clear  cn0 cn1 cn2 cn3 cn4 cn5 hb_1
    go_wp2_with fail
    go_ret
    exact ⟨rfl, below_link Hb1.out BB.out Hb1.out.size⟩
  have HZn := Lib.hid (fun w hw => szHost n fn [un_0, un_1, un_2, un_3, un_4, un_5] (1048576) w hw (by unfold LeftN; omega))
  rw [← hzn, cutN_yes cn] at HZn
  have kn : ¬ 1048576 - (zn : Int) < 0 := by omega
  have tn : n.wt ≤ 1048576 := by omega
  have HTn := Lib.hid (fun w hw => toHost n fn [un_0, un_1, un_2, un_3, un_4, un_5] w hw tn)
  have HEn := Lib.hid (fun f1 f2 v1 v2 w h1 h2 => eqHost n f1 f2 v1 v2 w h1 h2)
  have HS := Lib.hid (fun gn xn w hn => spec_host n gn xn w hn tn)
  have HI := Lib.hid (fun gn xn w hn => impl_host n gn xn w hn tn)
  generalize yes (HostP n) = R at HS HI
  clear hzn cn tn
  generalize 1048576 - (zn : Int) = yn at HZn kn
  go_enter Tryd.func4, Tryd.ntmps4
  have cn0 := (ARGn.out.below BB.out).cell 0 _ rfl
  have cn1 := (ARGn.out.below BB.out).cell 1 _ rfl
  have cn2 := (ARGn.out.below BB.out).cell 2 _ rfl
  have cn3 := (ARGn.out.below BB.out).cell 3 _ rfl
  have cn4 := (ARGn.out.below BB.out).cell 4 _ rfl
  have cn5 := (ARGn.out.below BB.out).cell 5 _ rfl
  rw [Hw1.out] at cn0 cn1 cn2 cn3 cn4 cn5
  go_wp2_with fail
  rw [← Hw1.out]
  refine (HZn.out _ (An.out.kept BB.out.block)).mono ?_
  rintro e w2 ⟨rfl, hb_1⟩
  have BB_2 := Lib.hid (below_link BB.out hb_1 BB.out.size)
  clear BB
  have BB := BB_2
  clear BB_2
  have S_3 := Lib.hid (show w1.heap.size ≤ w2.heap.size from hb_1.size)
  clear  cn0 cn1 cn2 cn3 cn4 cn5 hb_1
  have cn0 := (ARGn.out.below BB.out).cell 0 _ rfl
  have cn1 := (ARGn.out.below BB.out).cell 1 _ rfl
  have cn2 := (ARGn.out.below BB.out).cell 2 _ rfl
  have cn3 := (ARGn.out.below BB.out).cell 3 _ rfl
  have cn4 := (ARGn.out.below BB.out).cell 4 _ rfl
  have cn5 := (ARGn.out.below BB.out).cell 5 _ rfl
  go_wp2_with fail
  refine (HTn.out _ (An.out.kept BB.out.block)).mono ?_
  rintro e w3 ⟨xan, Fan, rfl, oan, _, hb_4⟩
  have BB_5 := Lib.hid (below_link BB.out hb_4 BB.out.size)
  clear BB
  have BB := BB_5
  clear BB_5
  have S_6 := Lib.hid (show w2.heap.size ≤ w3.heap.size from hb_4.size)
  clear  cn0 cn1 cn2 cn3 cn4 cn5 hb_4
  obtain ⟨xan_0, xan_1, xan_2, xan_3, xan_4, xan_5, rfl⟩ := of_Host (oan.1.trans (Host.row_length n))
  have onean := Lib.hid oan.one
  have Oan := Lib.hid oan.lies
  clear oan
  go_wp2_with fail
  refine (HS.out _ _ _ Oan.out).mono ?_
  rintro e w4 ⟨rfl, hb_7⟩
  have an_8 := Lib.hid (Oan.out.kept hb_7.block)
  have BB_9 := Lib.hid (below_link BB.out hb_7 BB.out.size)
  clear BB
  have BB := BB_9
  clear BB_9
  have S_10 := Lib.hid (show w3.heap.size ≤ w4.heap.size from hb_7.size)
  clear  Oan hb_7
  have cn0 := (ARGn.out.below BB.out).cell 0 _ rfl
  have cn1 := (ARGn.out.below BB.out).cell 1 _ rfl
  have cn2 := (ARGn.out.below BB.out).cell 2 _ rfl
  have cn3 := (ARGn.out.below BB.out).cell 3 _ rfl
  have cn4 := (ARGn.out.below BB.out).cell 4 _ rfl
  have cn5 := (ARGn.out.below BB.out).cell 5 _ rfl
  go_wp2_with fail
  refine (HTn.out _ (An.out.kept BB.out.block)).mono ?_
  rintro e w5 ⟨xbn, Fbn, rfl, obn, _, hb_11⟩
  have BB_12 := Lib.hid (below_link BB.out hb_11 BB.out.size)
  clear BB
  have BB := BB_12
  clear BB_12
  have S_13 := Lib.hid (show w4.heap.size ≤ w5.heap.size from hb_11.size)
  clear  cn0 cn1 cn2 cn3 cn4 cn5 hb_11
  obtain ⟨xbn_0, xbn_1, xbn_2, xbn_3, xbn_4, xbn_5, rfl⟩ := of_Host (obn.1.trans (Host.row_length n))
  have onebn := Lib.hid obn.one
  have Obn := Lib.hid obn.lies
  clear obn
  obtain ⟨w6, hw6⟩ : ∃ x, x = w5.alloc (.cells #[xbn_0, xbn_1, xbn_2, xbn_3, xbn_4, xbn_5] 44) := ⟨_, rfl⟩
  have hb_14 : Below w5.heap.size w5 w6 := by subst hw6; exact (Below.refl _ _).alloc (Nat.le_refl _) _
  have row_15 := Lib.hid (show RowE 44 w6 w5.heap.size [xbn_0, xbn_1, xbn_2, xbn_3, xbn_4, xbn_5] by subst hw6; exact RowE.new _ _ _)
  have Hw6 := Lib.hid hw6
  clear hw6
  have S_16 := Lib.hid (show w5.heap.size < w6.heap.size from heap_lt row_15.out)
  have bn_17 := Lib.hid (Obn.out.kept hb_14.block)
  have BB_18 := Lib.hid (below_link BB.out hb_14 BB.out.size)
  clear BB
  have BB := BB_18
  clear BB_18
  have S_19 := Lib.hid (show w5.heap.size ≤ w6.heap.size from hb_14.size)
  clear  Obn hb_14
  have h1bn := onebn.out
  have dbn0 := row_15.out.cell 0 _ rfl
  have dbn1 := row_15.out.cell 1 _ rfl
  have dbn2 := row_15.out.cell 2 _ rfl
  have dbn3 := row_15.out.cell 3 _ rfl
  have dbn4 := row_15.out.cell 4 _ rfl
  have dbn5 := row_15.out.cell 5 _ rfl
  rw [Hw6.out] at dbn0 dbn1 dbn2 dbn3 dbn4 dbn5
  go_wp2_with (first | (refine wpList_store_row rfl 44 _ _ rfl w5.heap.size #[xbn_0, xbn_1, xbn_2, xbn_3, xbn_4, xbn_5] rfl rfl 44 _ (heap_alloc_new w5 _) sizeHost rfl h1bn ?_; rw [World.setRow_alloc_new]) | fail)
  rw [← Hw6.out]
  refine (HI.out _ _ _ bn_17.out).mono ?_
  rintro e w7 ⟨rfl, hb_20⟩
  have bn_21 := Lib.hid (bn_17.out.kept hb_20.block)
  have bn_22 := Lib.hid (row_15.out.below hb_20)
  have BB_23 := Lib.hid (below_link BB.out hb_20 BB.out.size)
  clear BB
  have BB := BB_23
  clear BB_23
  have S_24 := Lib.hid (show w6.heap.size ≤ w7.heap.size from hb_20.size)
  clear row_15 dbn0 dbn1 dbn2 dbn3 dbn4 dbn5 bn_17 hb_20
  have dbn0 := bn_22.out.cell 0 _ rfl
  have dbn1 := bn_22.out.cell 1 _ rfl
  have dbn2 := bn_22.out.cell 2 _ rfl
  have dbn3 := bn_22.out.cell 3 _ rfl
  have dbn4 := bn_22.out.cell 4 _ rfl
  have dbn5 := bn_22.out.cell 5 _ rfl
  have cn0 := (ARGn.out.below BB.out).cell 0 _ rfl
  have cn1 := (ARGn.out.below BB.out).cell 1 _ rfl
  have cn2 := (ARGn.out.below BB.out).cell 2 _ rfl
  have cn3 := (ARGn.out.below BB.out).cell 3 _ rfl
  have cn4 := (ARGn.out.below BB.out).cell 4 _ rfl
  have cn5 := (ARGn.out.below BB.out).cell 5 _ rfl
  go_wp2_with fail
  go_region_law (go_simp; first | (go_at_call 12; refine (HTn.out _ (An.out.kept (BB.out.trans ((Below.refl _ _).drew.mono BB.out.size)).block)).mono ?_; rintro e m_25 ⟨usm_25, Fm_25, rfl, hom_25, _, hb_26⟩; have qm_250 := (bn_22.out.below ((Below.refl w7.heap.size w7).drew.trans (hb_26.mono (Nat.le_refl _)))).cell 0 _ rfl; have qm_251 := (bn_22.out.below ((Below.refl w7.heap.size w7).drew.trans (hb_26.mono (Nat.le_refl _)))).cell 1 _ rfl; have qm_252 := (bn_22.out.below ((Below.refl w7.heap.size w7).drew.trans (hb_26.mono (Nat.le_refl _)))).cell 2 _ rfl; have qm_253 := (bn_22.out.below ((Below.refl w7.heap.size w7).drew.trans (hb_26.mono (Nat.le_refl _)))).cell 3 _ rfl; have qm_254 := (bn_22.out.below ((Below.refl w7.heap.size w7).drew.trans (hb_26.mono (Nat.le_refl _)))).cell 4 _ rfl; have qm_255 := (bn_22.out.below ((Below.refl w7.heap.size w7).drew.trans (hb_26.mono (Nat.le_refl _)))).cell 5 _ rfl) | (go_at_call 14; refine (HEn.out _ _ _ _ _ (bn_21.out.kept ((Below.refl _ _).drew.trans (hb_26.mono (Nat.le_refl _))).block) hom_25.lies).mono ?_; rintro e w8 ⟨rfl, hb_28⟩))
  all_goals
    have hb_27 : Below w7.heap.size w7 w8 := below_link ((Below.refl _ _).drew.trans (hb_26.mono (Nat.le_refl _))) hb_28 hb_26.size
    clear hom_25 hb_26 hb_28 qm_250 qm_251 qm_252 qm_253 qm_254 qm_255
    have bn_29 := Lib.hid (bn_21.out.kept hb_27.block)
    have bn_30 := Lib.hid (bn_22.out.below hb_27)
    have BB_31 := Lib.hid (below_link BB.out hb_27 BB.out.size)
    clear BB
    have BB := BB_31
    clear BB_31
    have S_32 := Lib.hid (show w7.heap.size ≤ w8.heap.size from hb_27.size)
    clear bn_22 dbn0 dbn1 dbn2 dbn3 dbn4 dbn5 cn0 cn1 cn2 cn3 cn4 cn5 bn_21 hb_27
    go_wp2_with fail
    go_ret
    exact ⟨rfl, below_link Hb1.out BB.out Hb1.out.size⟩
end Go.Proofs.YtcfbkfmkjggcdaaDoor.fnExactHostOk
