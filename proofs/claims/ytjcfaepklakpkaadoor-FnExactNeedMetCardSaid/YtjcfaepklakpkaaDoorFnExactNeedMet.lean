/- FnExactNeedMet: the law returns true at every argument. Printed by gen/lawn.py. -/
import Derived.Test.YtjcfaepklakpkaaDoorMetS
import Derived.Test.YtjcfaepklakpkaaDoorSzLabelS
import Derived.Test.YtjcfaepklakpkaaDoorToLabelS
import Derived.Test.YtjcfaepklakpkaaDoorEqLabelS
import Derived.Test.YtjcfaepklakpkaaDoorGSz
import Derived.Test.YtjcfaepklakpkaaDoorGTo
import Derived.Test.YtjcfaepklakpkaaDoorGEq
import Derived.Test.YtjcfaepklakpkaaDoorLawL
import Derived.Test.YtjcfaepklakpkaaDoorRowE
import Derived.Deep.RegionHeld3
import Derived.Test.YtjcfaepklakpkaaDoorMetI
namespace Go.Proofs.YtjcfaepklakpkaaDoor.fnExactNeedMet
open Go.ChangeShapes Go.WideShapes Go.ChangeAt Go.RowKit
open lab ty need
set_option linter.unusedVariables false

set_option maxRecDepth 100000 in
set_option maxHeartbeats 16000000 in
theorem walk (l : List Label) (fl : Nat) (vl : Value) (n : Need) (fn : Nat) (un : List Value) (W : World) (hl : Lies W fl vl (.sl 2 l.length (l.flatMap Label.row))) (hn : LiesS W fn un n.row) :
    Calls Tryd.prog 5 #[vl, .agg un.toArray] W fun e w' => e = .returned (.bool true) ∧ Below W.heap.size W w' := by
  obtain ⟨un_0, un_1, un_2, rfl⟩ := three_of (hn.1.trans (Need.row_length n))
  obtain ⟨w1, hw1⟩ : ∃ x, x = (W).alloc (.cells #[un_0, un_1, un_2] 36) := ⟨_, rfl⟩
  have hb1 : Below W.heap.size W w1 := by subst hw1; exact ((Below.refl _ _).alloc (by simp) _)
  have hrn : RowE 36 w1 W.heap.size [un_0, un_1, un_2] := by
    subst hw1
    have h := (RowE.new 36 W [un_0, un_1, un_2])
    simpa using h
  have Hw1 := Lib.hid hw1
  have Hb1 := Lib.hid hb1
  have S0 := Lib.hid (show W.heap.size + 1 ≤ w1.heap.size by subst hw1; simp)
  have ARGn := Lib.hid hrn
  have Al := Lib.hid (hl.below hb1)
  have An := Lib.hid (hn.kept hb1.block)
  have BB := Lib.hid (Below.refl w1.heap.size w1)
  clear hb1 hw1 hrn hl hn
  obtain ⟨zl, hzl⟩ : ∃ x, x = (l.length + wsum Label.wt l) := ⟨_, rfl⟩
  obtain ⟨zn, hzn⟩ : ∃ x, x = n.wt := ⟨_, rfl⟩
  by_cases cl : (1048576 : Int) < (zl : Int)
  · skip
    have HZl := Lib.hid (fun w hw => szLabelS l fl vl (1048576) w hw (by unfold LeftN; omega))
    rw [← hzl, cutN_no (show (1048576 : Int) < (zl : Int) by omega)] at HZl
    clear hzl hzn cl
    go_enter Tryd.func5, Tryd.ntmps5
    go_wp2_with fail
    rw [← Hw1.out]
    refine (HZl.out _ (Al.out.below BB.out)).mono ?_
    rintro e w2 ⟨rfl, hb_1⟩
    have BB_2 := Lib.hid (below_link BB.out hb_1 BB.out.size)
    clear BB
    have BB := BB_2
    clear BB_2
    have S_3 := Lib.hid (show w1.heap.size ≤ w2.heap.size from hb_1.size)
    clear   hb_1
    go_wp2_with fail
    go_ret
    exact ⟨rfl, below_link Hb1.out BB.out Hb1.out.size⟩
  by_cases cn : (1048576 - (zl : Int) : Int) < (zn : Int)
  · skip
    have HZl := Lib.hid (fun w hw => szLabelS l fl vl (1048576) w hw (by unfold LeftN; omega))
    rw [← hzl, cutN_yes (show ¬ (1048576 : Int) < (zl : Int) by omega)] at HZl
    have kl : ¬ 1048576 - (zl : Int) < 0 := by omega
    have HZn := Lib.hid (fun w hw => szNeed n fn [un_0, un_1, un_2] (1048576 - (zl : Int)) w hw (by unfold LeftN; omega))
    rw [← hzn, cutN_no (show (1048576 - (zl : Int) : Int) < (zn : Int) by omega)] at HZn
    clear hzl hzn cl cn
    generalize 1048576 - (zl : Int) = yl at HZl kl HZn
    go_enter Tryd.func5, Tryd.ntmps5
    go_wp2_with fail
    rw [← Hw1.out]
    refine (HZl.out _ (Al.out.below BB.out)).mono ?_
    rintro e w2 ⟨rfl, hb_1⟩
    have BB_2 := Lib.hid (below_link BB.out hb_1 BB.out.size)
    clear BB
    have BB := BB_2
    clear BB_2
    have S_3 := Lib.hid (show w1.heap.size ≤ w2.heap.size from hb_1.size)
    clear   hb_1
    have cn0 := (ARGn.out.below BB.out).cell 0 _ rfl
    have cn1 := (ARGn.out.below BB.out).cell 1 _ rfl
    have cn2 := (ARGn.out.below BB.out).cell 2 _ rfl
    go_wp2_with fail
    refine (HZn.out _ (An.out.kept BB.out.block)).mono ?_
    rintro e w3 ⟨rfl, hb_4⟩
    have BB_5 := Lib.hid (below_link BB.out hb_4 BB.out.size)
    clear BB
    have BB := BB_5
    clear BB_5
    have S_6 := Lib.hid (show w2.heap.size ≤ w3.heap.size from hb_4.size)
    clear  cn0 cn1 cn2 hb_4
    go_wp2_with fail
    go_ret
    exact ⟨rfl, below_link Hb1.out BB.out Hb1.out.size⟩
  have HZl := Lib.hid (fun w hw => szLabelS l fl vl (1048576) w hw (by unfold LeftN; omega))
  rw [← hzl, cutN_yes cl] at HZl
  have kl : ¬ 1048576 - (zl : Int) < 0 := by omega
  have HZn := Lib.hid (fun w hw => szNeed n fn [un_0, un_1, un_2] (1048576 - (zl : Int)) w hw (by unfold LeftN; omega))
  rw [← hzn, cutN_yes cn] at HZn
  have kn : ¬ 1048576 - (zl : Int) - (zn : Int) < 0 := by omega
  have tl : (l.length + wsum Label.wt l) ≤ 1048576 := by omega
  have nl : l.length ≤ 1048576 := by omega
  have tn : n.wt ≤ 1048576 := by omega
  have HTl := Lib.hid (fun w hw => toLabelS l fl vl w hw nl)
  have HTn := Lib.hid (fun w hw => toNeed n fn [un_0, un_1, un_2] w hw tn)
  have HEl := Lib.hid (fun f1 f2 v1 v2 w h1 h2 => eqLabelS l f1 f2 v1 v2 w h1 h2)
  have HEn := Lib.hid (fun f1 f2 v1 v2 w h1 h2 => eqNeed n f1 f2 v1 v2 w h1 h2)
  have HS := Lib.hid (fun gl xl gn xn w hl hn => spec_met l n gl gn xl xn w hl hn tn)
  have HI := Lib.hid (fun gl xl gn xn w hl hn => impl_met l n gl gn xl xn w hl hn tn)
  generalize metF l n = R at HS HI
  clear hzl cl tl nl hzn cn tn
  generalize 1048576 - (zl : Int) = yl at HZl kl HZn kn
  generalize yl - (zn : Int) = yn at HZn kn
  go_enter Tryd.func5, Tryd.ntmps5
  go_wp2_with fail
  rw [← Hw1.out]
  refine (HZl.out _ (Al.out.below BB.out)).mono ?_
  rintro e w2 ⟨rfl, hb_1⟩
  have BB_2 := Lib.hid (below_link BB.out hb_1 BB.out.size)
  clear BB
  have BB := BB_2
  clear BB_2
  have S_3 := Lib.hid (show w1.heap.size ≤ w2.heap.size from hb_1.size)
  clear   hb_1
  have cn0 := (ARGn.out.below BB.out).cell 0 _ rfl
  have cn1 := (ARGn.out.below BB.out).cell 1 _ rfl
  have cn2 := (ARGn.out.below BB.out).cell 2 _ rfl
  go_wp2_with fail
  refine (HZn.out _ (An.out.kept BB.out.block)).mono ?_
  rintro e w3 ⟨rfl, hb_4⟩
  have BB_5 := Lib.hid (below_link BB.out hb_4 BB.out.size)
  clear BB
  have BB := BB_5
  clear BB_5
  have S_6 := Lib.hid (show w2.heap.size ≤ w3.heap.size from hb_4.size)
  clear  cn0 cn1 cn2 hb_4
  go_wp2_with fail
  have KS := Lib.hid (show ∀ w', Below w1.heap.size w1 w' → Below w1.heap.size w1 w' ∧ w'.cell? ⟨W.heap.size, 0, none⟩ = some un_0 ∧ w'.cell? ⟨W.heap.size, 1, none⟩ = some un_1 ∧ w'.cell? ⟨W.heap.size, 2, none⟩ = some un_2 from fun w' hb =>
    ⟨hb, (ARGn.out.below hb).cell 0 _ rfl, (ARGn.out.below hb).cell 1 _ rfl, (ARGn.out.below hb).cell 2 _ rfl⟩)
  have B0 := Lib.hid (BB.out.trans ((Below.refl _ _).drew.mono BB.out.size))
  refine wp_region_held_drew (S := (fun w' => Below w1.heap.size w1 w' ∧ w'.cell? ⟨W.heap.size, 0, none⟩ = some un_0 ∧ w'.cell? ⟨W.heap.size, 1, none⟩ = some un_1 ∧ w'.cell? ⟨W.heap.size, 2, none⟩ = some un_2)) (by kernel_rfl) ?_ (fun hHeld => ?_)
  · first | exact KS.out _ hxZ | exact KS.out _ hxB | exact KS.out _ hxA | exact KS.out _ B0.out
  refine wpAnyH_take (i := 0) (v := ?_) rfl (by kernel_rfl) (by kernel_rfl) (by kernel_rfl) (fun _ _ _ h => h) (Or.inl ⟨by rfl, ?_⟩) (by assumption) ?_
  rotate_left
  · intro w' hSw
    try dsimp only at hSw
    go_simp
    try with_reducible rfl
  try simp only [Act.put, List.setIfInBounds_toArray, List.set_cons_zero, List.set_cons_succ, List.getElem_toArray, List.getElem_cons_zero, List.getElem_cons_succ]
  refine wpAnyH_take (i := 2) (v := ?_) rfl (by kernel_rfl) (by kernel_rfl) (by kernel_rfl) (fun _ _ _ h => h) (Or.inl ⟨by rfl, ?_⟩) (by assumption) ?_
  rotate_left
  · intro w' hSw
    try dsimp only at hSw
    go_simp
    try with_reducible rfl
  try simp only [Act.put, List.setIfInBounds_toArray, List.set_cons_zero, List.set_cons_succ, List.getElem_toArray, List.getElem_cons_zero, List.getElem_cons_succ]
  refine wpAnyH_ready (rs := [1]) (by kernel_rfl) (by simp) ?_
  refine AllReadyH.cons rfl (fun K hK => ?_) ?_
  · go_simp
    go_at_call 22
    refine (HTl.out _ (Al.out.below hHeld.1)).mono ?_
    rintro e wA ⟨xA, rfl, rowA, hbA⟩
    obtain ⟨FA, hoA, _, _⟩ := rowA.own
    have hxA := below_link hHeld.1 hbA hHeld.1.size
    refine hK.out _ _ ?_ (fun hHeld => ?_)
    · first | exact KS.out _ hxZ | exact KS.out _ hxB | exact KS.out _ hxA | exact KS.out _ B0.out
    clear hK K
    try simp only [Act.put, List.setIfInBounds_toArray, List.set_cons_zero, List.set_cons_succ, List.getElem_toArray, List.getElem_cons_zero, List.getElem_cons_succ]
    refine wpAnyH_ready (rs := [3]) (by kernel_rfl) (by simp) ?_
    refine AllReadyH.cons rfl (fun K hK => ?_) ?_
    · go_simp
      go_at_call 18
      refine (HTn.out _ (An.out.kept hHeld.1.block)).mono ?_
      rintro e wB ⟨usB, FB, rfl, hoB, _, hbB⟩
      have hxB := below_link hHeld.1 hbB hHeld.1.size
      refine hK.out _ _ ?_ (fun hHeld => ?_)
      · first | exact KS.out _ hxZ | exact KS.out _ hxB | exact KS.out _ hxA | exact KS.out _ B0.out
      clear hK K
      try simp only [Act.put, List.setIfInBounds_toArray, List.set_cons_zero, List.set_cons_succ, List.getElem_toArray, List.getElem_cons_zero, List.getElem_cons_succ]
      refine wpAnyH_ready (rs := [4]) (by kernel_rfl) (by simp) ?_
      refine AllReadyH.cons rfl (fun K hK => ?_) ?_
      · go_simp
        go_at_call 21
        refine (HS.out _ _ _ _ _ (hoA.lies.below hbB) hoB.lies).mono ?_
        rintro e w4 ⟨rfl, hbZ⟩
        have hxZ := below_link hHeld.1 hbZ hHeld.1.size
        refine hK.out _ _ ?_ (fun hHeld => ?_)
        · first | exact KS.out _ hxZ | exact KS.out _ hxB | exact KS.out _ hxA | exact KS.out _ B0.out
        clear hK K
        try simp only [Act.put, List.setIfInBounds_toArray, List.set_cons_zero, List.set_cons_succ, List.getElem_toArray, List.getElem_cons_zero, List.getElem_cons_succ]
        refine wpAnyH_take (i := 5) (v := ?_) rfl (by kernel_rfl) (by kernel_rfl) (by kernel_rfl) (fun _ _ _ h => h) (Or.inl ⟨by rfl, ?_⟩) (by assumption) ?_
        rotate_left
        · intro w' hSw
          try dsimp only at hSw
          go_simp
          try with_reducible rfl
        try simp only [Act.put, List.setIfInBounds_toArray, List.set_cons_zero, List.set_cons_succ, List.getElem_toArray, List.getElem_cons_zero, List.getElem_cons_succ]
        refine wpAnyH_done (by kernel_rfl) ?_ _
        have BBn := Lib.hid hHeld.1
        have Sn := Lib.hid (show w1.heap.size ≤ w4.heap.size from hHeld.1.size)
        clear BB hHeld hbZ hxZ KS B0 hbA hxA hoA rowA hbB hxB hoB
        have BB := BBn
        clear BBn
        go_wp2_with fail
        refine (HTl.out _ (Al.out.below BB.out)).mono ?_
        rintro e w5 ⟨xbl, rfl, rowbl, hb_7⟩
        obtain ⟨Fbl, obl, _, _⟩ := rowbl.own
        have BB_8 := Lib.hid (below_link BB.out hb_7 BB.out.size)
        clear BB
        have BB := BB_8
        clear BB_8
        have S_9 := Lib.hid (show w4.heap.size ≤ w5.heap.size from hb_7.size)
        clear   hb_7
        have Obl := Lib.hid obl.lies
        clear rowbl obl
        have cn0 := (ARGn.out.below BB.out).cell 0 _ rfl
        have cn1 := (ARGn.out.below BB.out).cell 1 _ rfl
        have cn2 := (ARGn.out.below BB.out).cell 2 _ rfl
        go_wp2_with fail
        refine (HTn.out _ (An.out.kept BB.out.block)).mono ?_
        rintro e w6 ⟨xbn, Fbn, rfl, obn, _, hb_10⟩
        have bl_11 := Lib.hid (Obl.out.below hb_10)
        have BB_12 := Lib.hid (below_link BB.out hb_10 BB.out.size)
        clear BB
        have BB := BB_12
        clear BB_12
        have S_13 := Lib.hid (show w5.heap.size ≤ w6.heap.size from hb_10.size)
        clear  cn0 cn1 cn2 Obl hb_10
        obtain ⟨xbn_0, xbn_1, xbn_2, rfl⟩ := three_of (obn.1.trans (Need.row_length n))
        have onebn := Lib.hid obn.one
        have Obn := Lib.hid obn.lies
        clear obn
        obtain ⟨w7, hw7⟩ : ∃ x, x = w6.alloc (.cells #[xbn_0, xbn_1, xbn_2] 30) := ⟨_, rfl⟩
        have hb_14 : Below w6.heap.size w6 w7 := by subst hw7; exact (Below.refl _ _).alloc (Nat.le_refl _) _
        have row_15 := Lib.hid (show RowE 30 w7 w6.heap.size [xbn_0, xbn_1, xbn_2] by subst hw7; exact RowE.new _ _ _)
        have Hw7 := Lib.hid hw7
        clear hw7
        have S_16 := Lib.hid (show w6.heap.size < w7.heap.size from heap_lt row_15.out)
        have bl_17 := Lib.hid (bl_11.out.below hb_14)
        have bn_18 := Lib.hid (Obn.out.kept hb_14.block)
        have BB_19 := Lib.hid (below_link BB.out hb_14 BB.out.size)
        clear BB
        have BB := BB_19
        clear BB_19
        have S_20 := Lib.hid (show w6.heap.size ≤ w7.heap.size from hb_14.size)
        clear  bl_11 Obn hb_14
        have h1bn := onebn.out
        have dbn0 := row_15.out.cell 0 _ rfl
        have dbn1 := row_15.out.cell 1 _ rfl
        have dbn2 := row_15.out.cell 2 _ rfl
        rw [Hw7.out] at dbn0 dbn1 dbn2
        go_wp2_with (first | (refine wpList_store_row rfl 30 _ _ rfl w6.heap.size #[xbn_0, xbn_1, xbn_2] rfl rfl 30 _ (heap_alloc_new w6 _) sizeNeed rfl h1bn ?_; rw [World.setRow_alloc_new]) | fail)
        rw [← Hw7.out]
        refine (HI.out _ _ _ _ _ bl_17.out bn_18.out).mono ?_
        rintro e w8 ⟨rfl, hb_21⟩
        have bl_22 := Lib.hid (bl_17.out.below hb_21)
        have bn_23 := Lib.hid (bn_18.out.kept hb_21.block)
        have bn_24 := Lib.hid (row_15.out.below hb_21)
        have BB_25 := Lib.hid (below_link BB.out hb_21 BB.out.size)
        clear BB
        have BB := BB_25
        clear BB_25
        have S_26 := Lib.hid (show w7.heap.size ≤ w8.heap.size from hb_21.size)
        clear row_15 dbn0 dbn1 dbn2 bl_17 bn_18 hb_21
        go_wp2_with fail
        refine (HTl.out _ (Al.out.below BB.out)).mono ?_
        rintro e w9 ⟨xzbl, rfl, rowzbl, hb_27⟩
        obtain ⟨Fzbl, ozbl, _, _⟩ := rowzbl.own
        have bl_28 := Lib.hid (bl_22.out.below hb_27)
        have bn_29 := Lib.hid (bn_23.out.kept hb_27.block)
        have bn_30 := Lib.hid (bn_24.out.below hb_27)
        have BB_31 := Lib.hid (below_link BB.out hb_27 BB.out.size)
        clear BB
        have BB := BB_31
        clear BB_31
        have S_32 := Lib.hid (show w8.heap.size ≤ w9.heap.size from hb_27.size)
        clear bn_24 bl_22 bn_23 hb_27
        have Ozbl := Lib.hid ozbl.lies
        clear rowzbl ozbl
        go_wp2_with fail
        refine (HEl.out _ _ _ _ _ bl_28.out Ozbl.out).mono ?_
        rintro e w10 ⟨rfl, hb_33⟩
        have bl_34 := Lib.hid (bl_28.out.below hb_33)
        have bn_35 := Lib.hid (bn_29.out.kept hb_33.block)
        have zbl_36 := Lib.hid (Ozbl.out.below hb_33)
        have bn_37 := Lib.hid (bn_30.out.below hb_33)
        have BB_38 := Lib.hid (below_link BB.out hb_33 BB.out.size)
        clear BB
        have BB := BB_38
        clear BB_38
        have S_39 := Lib.hid (show w9.heap.size ≤ w10.heap.size from hb_33.size)
        clear bn_30 bl_28 bn_29 Ozbl hb_33
        have dbn0 := bn_37.out.cell 0 _ rfl
        have dbn1 := bn_37.out.cell 1 _ rfl
        have dbn2 := bn_37.out.cell 2 _ rfl
        have cn0 := (ARGn.out.below BB.out).cell 0 _ rfl
        have cn1 := (ARGn.out.below BB.out).cell 1 _ rfl
        have cn2 := (ARGn.out.below BB.out).cell 2 _ rfl
        go_wp2_with fail
        go_region_law (go_simp; first | (go_at_call 18; refine (HTn.out _ (An.out.kept (BB.out.trans ((Below.refl _ _).drew.mono BB.out.size)).block)).mono ?_; rintro e m_40 ⟨usm_40, Fm_40, rfl, hom_40, _, hb_41⟩; have qm_400 := (bn_37.out.below ((Below.refl w10.heap.size w10).drew.trans (hb_41.mono (Nat.le_refl _)))).cell 0 _ rfl; have qm_401 := (bn_37.out.below ((Below.refl w10.heap.size w10).drew.trans (hb_41.mono (Nat.le_refl _)))).cell 1 _ rfl; have qm_402 := (bn_37.out.below ((Below.refl w10.heap.size w10).drew.trans (hb_41.mono (Nat.le_refl _)))).cell 2 _ rfl) | (go_at_call 19; refine (HEn.out _ _ _ _ _ (bn_35.out.kept ((Below.refl _ _).drew.trans (hb_41.mono (Nat.le_refl _))).block) hom_40.lies).mono ?_; rintro e w11 ⟨rfl, hb_43⟩))
        all_goals
          have hb_42 : Below w10.heap.size w10 w11 := below_link ((Below.refl _ _).drew.trans (hb_41.mono (Nat.le_refl _))) hb_43 hb_41.size
          clear hom_40 hb_41 hb_43 qm_400 qm_401 qm_402
          have bl_44 := Lib.hid (bl_34.out.below hb_42)
          have bn_45 := Lib.hid (bn_35.out.kept hb_42.block)
          have bn_46 := Lib.hid (bn_37.out.below hb_42)
          have BB_47 := Lib.hid (below_link BB.out hb_42 BB.out.size)
          clear BB
          have BB := BB_47
          clear BB_47
          have S_48 := Lib.hid (show w10.heap.size ≤ w11.heap.size from hb_42.size)
          clear bn_37 dbn0 dbn1 dbn2 cn0 cn1 cn2 bl_34 bn_35 hb_42
          go_wp2_with fail
          go_ret
          exact ⟨rfl, below_link Hb1.out BB.out Hb1.out.size⟩
      exact AllReadyH.nil
    exact AllReadyH.nil
  exact AllReadyH.nil
end Go.Proofs.YtjcfaepklakpkaaDoor.fnExactNeedMet
