/- FnExactSamePod: the law returns true at every argument. Printed by gen/lawn.py. -/
import Derived.Test.YtcfbkfmkjggcdaaSamePodS
import Derived.Test.YtcfbkfmkjggcdaaGA4
import Derived.Test.YtcfbkfmkjggcdaaGA5
import Derived.Test.YtcfbkfmkjggcdaaGA6
import Derived.Test.YtcfbkfmkjggcdaaGA3
import Derived.Test.YtcfbkfmkjggcdaaGA2
import Derived.Deep.RegionHeld3
import Derived.Test.YtcfbkfmkjggcdaaGA8
namespace Go.Proofs.Ytcfbkfmkjggcdaa.fnExactSamePod
open Go.ChangeShapes Go.WideShapes Go.ChangeAt Go.RowKit
open lab ty need pod
set_option linter.unusedVariables false

set_option maxRecDepth 100000 in
set_option maxHeartbeats 16000000 in
theorem walk (n : Pod) (fn : Nat) (un : List Value) (m : Pod) (fm : Nat) (um : List Value) (W : World) (hn : LiesS W fn un n.row) (hm : LiesS W fm um m.row) :
    Calls Try.prog 3 #[.agg un.toArray, .agg um.toArray] W fun e w' => e = .returned (.bool true) ∧ Below W.heap.size W w' := by
  obtain ⟨un_0, un_1, un_2, un_3, un_4, un_5, un_6, rfl⟩ := of_Pod (hn.1.trans (Pod.row_length n))
  obtain ⟨um_0, um_1, um_2, um_3, um_4, um_5, um_6, rfl⟩ := of_Pod (hm.1.trans (Pod.row_length m))
  obtain ⟨w1, hw1⟩ : ∃ x, x = ((W).alloc (.cells #[un_0, un_1, un_2, un_3, un_4, un_5, un_6] 26)).alloc (.cells #[um_0, um_1, um_2, um_3, um_4, um_5, um_6] 26) := ⟨_, rfl⟩
  have hb1 : Below W.heap.size W w1 := by subst hw1; exact (((Below.refl _ _).alloc (by simp) _).alloc (by simp) _)
  have hrn : RowE 26 w1 W.heap.size [un_0, un_1, un_2, un_3, un_4, un_5, un_6] := by
    subst hw1
    have h := (RowE.alloc (e2 := 26) (vs := [um_0, um_1, um_2, um_3, um_4, um_5, um_6]) (RowE.new 26 W [un_0, un_1, un_2, un_3, un_4, un_5, un_6]))
    simpa using h
  have hrm : RowE 26 w1 (W.heap.size + 1) [um_0, um_1, um_2, um_3, um_4, um_5, um_6] := by
    subst hw1
    have h := (RowE.new 26 (W.alloc (.cells #[un_0, un_1, un_2, un_3, un_4, un_5, un_6] 26)) [um_0, um_1, um_2, um_3, um_4, um_5, um_6])
    simpa using h
  have Hw1 := Lib.hid hw1
  have Hb1 := Lib.hid hb1
  have S0 := Lib.hid (show W.heap.size + 2 ≤ w1.heap.size by subst hw1; simp)
  have ARGn := Lib.hid hrn
  have ARGm := Lib.hid hrm
  have An := Lib.hid (hn.kept hb1.block)
  have Am := Lib.hid (hm.kept hb1.block)
  have BB := Lib.hid (Below.refl w1.heap.size w1)
  clear hb1 hw1 hrn hrm hn hm
  obtain ⟨zn, hzn⟩ : ∃ x, x = n.wt := ⟨_, rfl⟩
  obtain ⟨zm, hzm⟩ : ∃ x, x = m.wt := ⟨_, rfl⟩
  by_cases cn : (1048576 : Int) < (zn : Int)
  · skip
    have HZn := Lib.hid (fun w hw => szPod n fn [un_0, un_1, un_2, un_3, un_4, un_5, un_6] (1048576) w hw (by unfold LeftN; omega))
    rw [← hzn, cutN_no (show (1048576 : Int) < (zn : Int) by omega)] at HZn
    clear hzn hzm cn
    go_enter Try.func3, Try.ntmps3
    have cn0 := (ARGn.out.below BB.out).cell 0 _ rfl
    have cn1 := (ARGn.out.below BB.out).cell 1 _ rfl
    have cn2 := (ARGn.out.below BB.out).cell 2 _ rfl
    have cn3 := (ARGn.out.below BB.out).cell 3 _ rfl
    have cn4 := (ARGn.out.below BB.out).cell 4 _ rfl
    have cn5 := (ARGn.out.below BB.out).cell 5 _ rfl
    have cn6 := (ARGn.out.below BB.out).cell 6 _ rfl
    rw [Hw1.out] at cn0 cn1 cn2 cn3 cn4 cn5 cn6
    go_wp2_with fail
    rw [← Hw1.out]
    refine (HZn.out _ (An.out.kept BB.out.block)).mono ?_
    rintro e w2 ⟨rfl, hb_1⟩
    have BB_2 := Lib.hid (below_link BB.out hb_1 BB.out.size)
    clear BB
    have BB := BB_2
    clear BB_2
    have S_3 := Lib.hid (show w1.heap.size ≤ w2.heap.size from hb_1.size)
    clear  cn0 cn1 cn2 cn3 cn4 cn5 cn6 hb_1
    go_wp2_with fail
    go_ret
    exact ⟨rfl, below_link Hb1.out BB.out Hb1.out.size⟩
  by_cases cm : (1048576 - (zn : Int) : Int) < (zm : Int)
  · skip
    have HZn := Lib.hid (fun w hw => szPod n fn [un_0, un_1, un_2, un_3, un_4, un_5, un_6] (1048576) w hw (by unfold LeftN; omega))
    rw [← hzn, cutN_yes (show ¬ (1048576 : Int) < (zn : Int) by omega)] at HZn
    have kn : ¬ 1048576 - (zn : Int) < 0 := by omega
    have HZm := Lib.hid (fun w hw => szPod m fm [um_0, um_1, um_2, um_3, um_4, um_5, um_6] (1048576 - (zn : Int)) w hw (by unfold LeftN; omega))
    rw [← hzm, cutN_no (show (1048576 - (zn : Int) : Int) < (zm : Int) by omega)] at HZm
    clear hzn hzm cn cm
    generalize 1048576 - (zn : Int) = yn at HZn kn HZm
    go_enter Try.func3, Try.ntmps3
    have cn0 := (ARGn.out.below BB.out).cell 0 _ rfl
    have cn1 := (ARGn.out.below BB.out).cell 1 _ rfl
    have cn2 := (ARGn.out.below BB.out).cell 2 _ rfl
    have cn3 := (ARGn.out.below BB.out).cell 3 _ rfl
    have cn4 := (ARGn.out.below BB.out).cell 4 _ rfl
    have cn5 := (ARGn.out.below BB.out).cell 5 _ rfl
    have cn6 := (ARGn.out.below BB.out).cell 6 _ rfl
    rw [Hw1.out] at cn0 cn1 cn2 cn3 cn4 cn5 cn6
    go_wp2_with fail
    rw [← Hw1.out]
    refine (HZn.out _ (An.out.kept BB.out.block)).mono ?_
    rintro e w2 ⟨rfl, hb_1⟩
    have BB_2 := Lib.hid (below_link BB.out hb_1 BB.out.size)
    clear BB
    have BB := BB_2
    clear BB_2
    have S_3 := Lib.hid (show w1.heap.size ≤ w2.heap.size from hb_1.size)
    clear  cn0 cn1 cn2 cn3 cn4 cn5 cn6 hb_1
    have cm0 := (ARGm.out.below BB.out).cell 0 _ rfl
    have cm1 := (ARGm.out.below BB.out).cell 1 _ rfl
    have cm2 := (ARGm.out.below BB.out).cell 2 _ rfl
    have cm3 := (ARGm.out.below BB.out).cell 3 _ rfl
    have cm4 := (ARGm.out.below BB.out).cell 4 _ rfl
    have cm5 := (ARGm.out.below BB.out).cell 5 _ rfl
    have cm6 := (ARGm.out.below BB.out).cell 6 _ rfl
    go_wp2_with fail
    refine (HZm.out _ (Am.out.kept BB.out.block)).mono ?_
    rintro e w3 ⟨rfl, hb_4⟩
    have BB_5 := Lib.hid (below_link BB.out hb_4 BB.out.size)
    clear BB
    have BB := BB_5
    clear BB_5
    have S_6 := Lib.hid (show w2.heap.size ≤ w3.heap.size from hb_4.size)
    clear  cm0 cm1 cm2 cm3 cm4 cm5 cm6 hb_4
    go_wp2_with fail
    go_ret
    exact ⟨rfl, below_link Hb1.out BB.out Hb1.out.size⟩
  have HZn := Lib.hid (fun w hw => szPod n fn [un_0, un_1, un_2, un_3, un_4, un_5, un_6] (1048576) w hw (by unfold LeftN; omega))
  rw [← hzn, cutN_yes cn] at HZn
  have kn : ¬ 1048576 - (zn : Int) < 0 := by omega
  have HZm := Lib.hid (fun w hw => szPod m fm [um_0, um_1, um_2, um_3, um_4, um_5, um_6] (1048576 - (zn : Int)) w hw (by unfold LeftN; omega))
  rw [← hzm, cutN_yes cm] at HZm
  have km : ¬ 1048576 - (zn : Int) - (zm : Int) < 0 := by omega
  have tn : n.wt ≤ 1048576 := by omega
  have tm : m.wt ≤ 1048576 := by omega
  have HTn := Lib.hid (fun w hw => toPod n fn [un_0, un_1, un_2, un_3, un_4, un_5, un_6] w hw tn)
  have HTm := Lib.hid (fun w hw => toPod m fm [um_0, um_1, um_2, um_3, um_4, um_5, um_6] w hw tm)
  have HEn := Lib.hid (fun f1 f2 v1 v2 w h1 h2 => eqPod n f1 f2 v1 v2 w h1 h2)
  have HEm := Lib.hid (fun f1 f2 v1 v2 w h1 h2 => eqPod m f1 f2 v1 v2 w h1 h2)
  have HS := Lib.hid (fun gn xn gm xm w hn hm => spec_samePod n m gn gm xn xm w hn hm)
  have HI := Lib.hid (fun gn xn gm xm w hn hm => impl_samePod n m gn gm xn xm w hn hm)
  generalize yes (n = m) = R at HS HI
  clear hzn cn tn hzm cm tm
  generalize 1048576 - (zn : Int) = yn at HZn kn HZm km
  generalize yn - (zm : Int) = ym at HZm km
  go_enter Try.func3, Try.ntmps3
  have cn0 := (ARGn.out.below BB.out).cell 0 _ rfl
  have cn1 := (ARGn.out.below BB.out).cell 1 _ rfl
  have cn2 := (ARGn.out.below BB.out).cell 2 _ rfl
  have cn3 := (ARGn.out.below BB.out).cell 3 _ rfl
  have cn4 := (ARGn.out.below BB.out).cell 4 _ rfl
  have cn5 := (ARGn.out.below BB.out).cell 5 _ rfl
  have cn6 := (ARGn.out.below BB.out).cell 6 _ rfl
  rw [Hw1.out] at cn0 cn1 cn2 cn3 cn4 cn5 cn6
  go_wp2_with fail
  rw [← Hw1.out]
  refine (HZn.out _ (An.out.kept BB.out.block)).mono ?_
  rintro e w2 ⟨rfl, hb_1⟩
  have BB_2 := Lib.hid (below_link BB.out hb_1 BB.out.size)
  clear BB
  have BB := BB_2
  clear BB_2
  have S_3 := Lib.hid (show w1.heap.size ≤ w2.heap.size from hb_1.size)
  clear  cn0 cn1 cn2 cn3 cn4 cn5 cn6 hb_1
  have cm0 := (ARGm.out.below BB.out).cell 0 _ rfl
  have cm1 := (ARGm.out.below BB.out).cell 1 _ rfl
  have cm2 := (ARGm.out.below BB.out).cell 2 _ rfl
  have cm3 := (ARGm.out.below BB.out).cell 3 _ rfl
  have cm4 := (ARGm.out.below BB.out).cell 4 _ rfl
  have cm5 := (ARGm.out.below BB.out).cell 5 _ rfl
  have cm6 := (ARGm.out.below BB.out).cell 6 _ rfl
  go_wp2_with fail
  refine (HZm.out _ (Am.out.kept BB.out.block)).mono ?_
  rintro e w3 ⟨rfl, hb_4⟩
  have BB_5 := Lib.hid (below_link BB.out hb_4 BB.out.size)
  clear BB
  have BB := BB_5
  clear BB_5
  have S_6 := Lib.hid (show w2.heap.size ≤ w3.heap.size from hb_4.size)
  clear  cm0 cm1 cm2 cm3 cm4 cm5 cm6 hb_4
  go_wp2_with fail
  have KS := Lib.hid (show ∀ w', Below w1.heap.size w1 w' → Below w1.heap.size w1 w' ∧ w'.cell? ⟨W.heap.size, 0, none⟩ = some un_0 ∧ w'.cell? ⟨W.heap.size, 1, none⟩ = some un_1 ∧ w'.cell? ⟨W.heap.size, 2, none⟩ = some un_2 ∧ w'.cell? ⟨W.heap.size, 3, none⟩ = some un_3 ∧ w'.cell? ⟨W.heap.size, 4, none⟩ = some un_4 ∧ w'.cell? ⟨W.heap.size, 5, none⟩ = some un_5 ∧ w'.cell? ⟨W.heap.size, 6, none⟩ = some un_6 ∧ w'.cell? ⟨(W.heap.size + 1), 0, none⟩ = some um_0 ∧ w'.cell? ⟨(W.heap.size + 1), 1, none⟩ = some um_1 ∧ w'.cell? ⟨(W.heap.size + 1), 2, none⟩ = some um_2 ∧ w'.cell? ⟨(W.heap.size + 1), 3, none⟩ = some um_3 ∧ w'.cell? ⟨(W.heap.size + 1), 4, none⟩ = some um_4 ∧ w'.cell? ⟨(W.heap.size + 1), 5, none⟩ = some um_5 ∧ w'.cell? ⟨(W.heap.size + 1), 6, none⟩ = some um_6 from fun w' hb =>
    ⟨hb, (ARGn.out.below hb).cell 0 _ rfl, (ARGn.out.below hb).cell 1 _ rfl, (ARGn.out.below hb).cell 2 _ rfl, (ARGn.out.below hb).cell 3 _ rfl, (ARGn.out.below hb).cell 4 _ rfl, (ARGn.out.below hb).cell 5 _ rfl, (ARGn.out.below hb).cell 6 _ rfl, (ARGm.out.below hb).cell 0 _ rfl, (ARGm.out.below hb).cell 1 _ rfl, (ARGm.out.below hb).cell 2 _ rfl, (ARGm.out.below hb).cell 3 _ rfl, (ARGm.out.below hb).cell 4 _ rfl, (ARGm.out.below hb).cell 5 _ rfl, (ARGm.out.below hb).cell 6 _ rfl⟩)
  have B0 := Lib.hid (BB.out.trans ((Below.refl _ _).drew.mono BB.out.size))
  refine wp_region_held_drew (S := (fun w' => Below w1.heap.size w1 w' ∧ w'.cell? ⟨W.heap.size, 0, none⟩ = some un_0 ∧ w'.cell? ⟨W.heap.size, 1, none⟩ = some un_1 ∧ w'.cell? ⟨W.heap.size, 2, none⟩ = some un_2 ∧ w'.cell? ⟨W.heap.size, 3, none⟩ = some un_3 ∧ w'.cell? ⟨W.heap.size, 4, none⟩ = some un_4 ∧ w'.cell? ⟨W.heap.size, 5, none⟩ = some un_5 ∧ w'.cell? ⟨W.heap.size, 6, none⟩ = some un_6 ∧ w'.cell? ⟨(W.heap.size + 1), 0, none⟩ = some um_0 ∧ w'.cell? ⟨(W.heap.size + 1), 1, none⟩ = some um_1 ∧ w'.cell? ⟨(W.heap.size + 1), 2, none⟩ = some um_2 ∧ w'.cell? ⟨(W.heap.size + 1), 3, none⟩ = some um_3 ∧ w'.cell? ⟨(W.heap.size + 1), 4, none⟩ = some um_4 ∧ w'.cell? ⟨(W.heap.size + 1), 5, none⟩ = some um_5 ∧ w'.cell? ⟨(W.heap.size + 1), 6, none⟩ = some um_6)) (by kernel_rfl) ?_ (fun hHeld => ?_)
  · first | exact KS.out _ hxZ | exact KS.out _ hxB | exact KS.out _ hxA | exact KS.out _ B0.out
  refine wpAnyH_take (i := 0) (v := ?_) rfl (by kernel_rfl) (by kernel_rfl) (by kernel_rfl) (fun _ _ _ h => h) (Or.inl ⟨by rfl, ?_⟩) (by assumption) ?_
  rotate_left
  · intro w' hSw
    try dsimp only at hSw
    go_simp
    try with_reducible rfl
  try simp only [Act.put, List.setIfInBounds_toArray, List.set_cons_zero, List.set_cons_succ, List.getElem_toArray, List.getElem_cons_zero, List.getElem_cons_succ]
  refine wpAnyH_take (i := 2) (v := ?_) rfl (by kernel_rfl) (by kernel_rfl) (by kernel_rfl) (fun _ _ _ h => h) (Or.inl ⟨by rfl, ?_⟩) (by assumption) ?_
  rotate_left
  · intro w' hSw
    try dsimp only at hSw
    go_simp
    try with_reducible rfl
  try simp only [Act.put, List.setIfInBounds_toArray, List.set_cons_zero, List.set_cons_succ, List.getElem_toArray, List.getElem_cons_zero, List.getElem_cons_succ]
  refine wpAnyH_ready (rs := [1]) (by kernel_rfl) (by simp) ?_
  refine AllReadyH.cons rfl (fun K hK => ?_) ?_
  · go_simp
    go_at_call 8
    refine (HTn.out _ (An.out.kept hHeld.1.block)).mono ?_
    rintro e wA ⟨usA, FA, rfl, hoA, _, hbA⟩
    have hxA := below_link hHeld.1 hbA hHeld.1.size
    refine hK.out _ _ ?_ (fun hHeld => ?_)
    · first | exact KS.out _ hxZ | exact KS.out _ hxB | exact KS.out _ hxA | exact KS.out _ B0.out
    clear hK K
    try simp only [Act.put, List.setIfInBounds_toArray, List.set_cons_zero, List.set_cons_succ, List.getElem_toArray, List.getElem_cons_zero, List.getElem_cons_succ]
    refine wpAnyH_ready (rs := [3]) (by kernel_rfl) (by simp) ?_
    refine AllReadyH.cons rfl (fun K hK => ?_) ?_
    · go_simp
      go_at_call 8
      refine (HTm.out _ (Am.out.kept hHeld.1.block)).mono ?_
      rintro e wB ⟨usB, FB, rfl, hoB, _, hbB⟩
      have hxB := below_link hHeld.1 hbB hHeld.1.size
      refine hK.out _ _ ?_ (fun hHeld => ?_)
      · first | exact KS.out _ hxZ | exact KS.out _ hxB | exact KS.out _ hxA | exact KS.out _ B0.out
      clear hK K
      try simp only [Act.put, List.setIfInBounds_toArray, List.set_cons_zero, List.set_cons_succ, List.getElem_toArray, List.getElem_cons_zero, List.getElem_cons_succ]
      refine wpAnyH_ready (rs := [4]) (by kernel_rfl) (by simp) ?_
      refine AllReadyH.cons rfl (fun K hK => ?_) ?_
      · go_simp
        go_at_call 7
        refine (HS.out _ _ _ _ _ (hoA.lies.kept hbB.block) hoB.lies).mono ?_
        rintro e w4 ⟨rfl, hbZ⟩
        have hxZ := below_link hHeld.1 hbZ hHeld.1.size
        refine hK.out _ _ ?_ (fun hHeld => ?_)
        · first | exact KS.out _ hxZ | exact KS.out _ hxB | exact KS.out _ hxA | exact KS.out _ B0.out
        clear hK K
        try simp only [Act.put, List.setIfInBounds_toArray, List.set_cons_zero, List.set_cons_succ, List.getElem_toArray, List.getElem_cons_zero, List.getElem_cons_succ]
        refine wpAnyH_take (i := 5) (v := ?_) rfl (by kernel_rfl) (by kernel_rfl) (by kernel_rfl) (fun _ _ _ h => h) (Or.inl ⟨by rfl, ?_⟩) (by assumption) ?_
        rotate_left
        · intro w' hSw
          try dsimp only at hSw
          go_simp
          try with_reducible rfl
        try simp only [Act.put, List.setIfInBounds_toArray, List.set_cons_zero, List.set_cons_succ, List.getElem_toArray, List.getElem_cons_zero, List.getElem_cons_succ]
        refine wpAnyH_done (by kernel_rfl) ?_ _
        have BBn := Lib.hid hHeld.1
        have Sn := Lib.hid (show w1.heap.size ≤ w4.heap.size from hHeld.1.size)
        clear BB hHeld hbZ hxZ KS B0 hbA hxA hoA hbB hxB hoB
        have BB := BBn
        clear BBn
        have cn0 := (ARGn.out.below BB.out).cell 0 _ rfl
        have cn1 := (ARGn.out.below BB.out).cell 1 _ rfl
        have cn2 := (ARGn.out.below BB.out).cell 2 _ rfl
        have cn3 := (ARGn.out.below BB.out).cell 3 _ rfl
        have cn4 := (ARGn.out.below BB.out).cell 4 _ rfl
        have cn5 := (ARGn.out.below BB.out).cell 5 _ rfl
        have cn6 := (ARGn.out.below BB.out).cell 6 _ rfl
        go_wp2_with fail
        refine (HTn.out _ (An.out.kept BB.out.block)).mono ?_
        rintro e w5 ⟨xbn, Fbn, rfl, obn, _, hb_7⟩
        have BB_8 := Lib.hid (below_link BB.out hb_7 BB.out.size)
        clear BB
        have BB := BB_8
        clear BB_8
        have S_9 := Lib.hid (show w4.heap.size ≤ w5.heap.size from hb_7.size)
        clear  cn0 cn1 cn2 cn3 cn4 cn5 cn6 hb_7
        obtain ⟨xbn_0, xbn_1, xbn_2, xbn_3, xbn_4, xbn_5, xbn_6, rfl⟩ := of_Pod (obn.1.trans (Pod.row_length n))
        have onebn := Lib.hid obn.one
        have Obn := Lib.hid obn.lies
        clear obn
        obtain ⟨w6, hw6⟩ : ∃ x, x = w5.alloc (.cells #[xbn_0, xbn_1, xbn_2, xbn_3, xbn_4, xbn_5, xbn_6] 33) := ⟨_, rfl⟩
        have hb_10 : Below w5.heap.size w5 w6 := by subst hw6; exact (Below.refl _ _).alloc (Nat.le_refl _) _
        have row_11 := Lib.hid (show RowE 33 w6 w5.heap.size [xbn_0, xbn_1, xbn_2, xbn_3, xbn_4, xbn_5, xbn_6] by subst hw6; exact RowE.new _ _ _)
        have Hw6 := Lib.hid hw6
        clear hw6
        have S_12 := Lib.hid (show w5.heap.size < w6.heap.size from heap_lt row_11.out)
        have bn_13 := Lib.hid (Obn.out.kept hb_10.block)
        have BB_14 := Lib.hid (below_link BB.out hb_10 BB.out.size)
        clear BB
        have BB := BB_14
        clear BB_14
        have S_15 := Lib.hid (show w5.heap.size ≤ w6.heap.size from hb_10.size)
        clear  Obn hb_10
        have h1bn := onebn.out
        have cm0 := (ARGm.out.below BB.out).cell 0 _ rfl
        have cm1 := (ARGm.out.below BB.out).cell 1 _ rfl
        have cm2 := (ARGm.out.below BB.out).cell 2 _ rfl
        have cm3 := (ARGm.out.below BB.out).cell 3 _ rfl
        have cm4 := (ARGm.out.below BB.out).cell 4 _ rfl
        have cm5 := (ARGm.out.below BB.out).cell 5 _ rfl
        have cm6 := (ARGm.out.below BB.out).cell 6 _ rfl
        rw [Hw6.out] at cm0 cm1 cm2 cm3 cm4 cm5 cm6
        go_wp2_with (first | (refine wpList_store_row rfl 33 _ _ rfl w5.heap.size #[xbn_0, xbn_1, xbn_2, xbn_3, xbn_4, xbn_5, xbn_6] rfl rfl 33 _ (heap_alloc_new w5 _) sizePod rfl h1bn ?_; rw [World.setRow_alloc_new]) | fail)
        rw [← Hw6.out]
        refine (HTm.out _ (Am.out.kept BB.out.block)).mono ?_
        rintro e w7 ⟨xbm, Fbm, rfl, obm, _, hb_16⟩
        have bn_17 := Lib.hid (bn_13.out.kept hb_16.block)
        have bn_18 := Lib.hid (row_11.out.below hb_16)
        have BB_19 := Lib.hid (below_link BB.out hb_16 BB.out.size)
        clear BB
        have BB := BB_19
        clear BB_19
        have S_20 := Lib.hid (show w6.heap.size ≤ w7.heap.size from hb_16.size)
        clear row_11 cm0 cm1 cm2 cm3 cm4 cm5 cm6 bn_13 hb_16
        obtain ⟨xbm_0, xbm_1, xbm_2, xbm_3, xbm_4, xbm_5, xbm_6, rfl⟩ := of_Pod (obm.1.trans (Pod.row_length m))
        have onebm := Lib.hid obm.one
        have Obm := Lib.hid obm.lies
        clear obm
        obtain ⟨w8, hw8⟩ : ∃ x, x = w7.alloc (.cells #[xbm_0, xbm_1, xbm_2, xbm_3, xbm_4, xbm_5, xbm_6] 33) := ⟨_, rfl⟩
        have hb_21 : Below w7.heap.size w7 w8 := by subst hw8; exact (Below.refl _ _).alloc (Nat.le_refl _) _
        have row_22 := Lib.hid (show RowE 33 w8 w7.heap.size [xbm_0, xbm_1, xbm_2, xbm_3, xbm_4, xbm_5, xbm_6] by subst hw8; exact RowE.new _ _ _)
        have Hw8 := Lib.hid hw8
        clear hw8
        have S_23 := Lib.hid (show w7.heap.size < w8.heap.size from heap_lt row_22.out)
        have bn_24 := Lib.hid (bn_17.out.kept hb_21.block)
        have bm_25 := Lib.hid (Obm.out.kept hb_21.block)
        have bn_26 := Lib.hid (bn_18.out.below hb_21)
        have BB_27 := Lib.hid (below_link BB.out hb_21 BB.out.size)
        clear BB
        have BB := BB_27
        clear BB_27
        have S_28 := Lib.hid (show w7.heap.size ≤ w8.heap.size from hb_21.size)
        clear bn_18 bn_17 Obm hb_21
        have h1bm := onebm.out
        have dbn0 := bn_26.out.cell 0 _ rfl
        have dbn1 := bn_26.out.cell 1 _ rfl
        have dbn2 := bn_26.out.cell 2 _ rfl
        have dbn3 := bn_26.out.cell 3 _ rfl
        have dbn4 := bn_26.out.cell 4 _ rfl
        have dbn5 := bn_26.out.cell 5 _ rfl
        have dbn6 := bn_26.out.cell 6 _ rfl
        rw [Hw8.out] at dbn0 dbn1 dbn2 dbn3 dbn4 dbn5 dbn6
        have dbm0 := row_22.out.cell 0 _ rfl
        have dbm1 := row_22.out.cell 1 _ rfl
        have dbm2 := row_22.out.cell 2 _ rfl
        have dbm3 := row_22.out.cell 3 _ rfl
        have dbm4 := row_22.out.cell 4 _ rfl
        have dbm5 := row_22.out.cell 5 _ rfl
        have dbm6 := row_22.out.cell 6 _ rfl
        rw [Hw8.out] at dbm0 dbm1 dbm2 dbm3 dbm4 dbm5 dbm6
        go_wp2_with (first | (refine wpList_store_row rfl 33 _ _ rfl w7.heap.size #[xbm_0, xbm_1, xbm_2, xbm_3, xbm_4, xbm_5, xbm_6] rfl rfl 33 _ (heap_alloc_new w7 _) sizePod rfl h1bm ?_; rw [World.setRow_alloc_new]) | fail)
        rw [← Hw8.out]
        refine (HI.out _ _ _ _ _ bn_24.out bm_25.out).mono ?_
        rintro e w9 ⟨rfl, hb_29⟩
        have bn_30 := Lib.hid (bn_24.out.kept hb_29.block)
        have bm_31 := Lib.hid (bm_25.out.kept hb_29.block)
        have bn_32 := Lib.hid (bn_26.out.below hb_29)
        have bm_33 := Lib.hid (row_22.out.below hb_29)
        have BB_34 := Lib.hid (below_link BB.out hb_29 BB.out.size)
        clear BB
        have BB := BB_34
        clear BB_34
        have S_35 := Lib.hid (show w8.heap.size ≤ w9.heap.size from hb_29.size)
        clear bn_26 row_22 dbn0 dbn1 dbn2 dbn3 dbn4 dbn5 dbn6 dbm0 dbm1 dbm2 dbm3 dbm4 dbm5 dbm6 bn_24 bm_25 hb_29
        have dbn0 := bn_32.out.cell 0 _ rfl
        have dbn1 := bn_32.out.cell 1 _ rfl
        have dbn2 := bn_32.out.cell 2 _ rfl
        have dbn3 := bn_32.out.cell 3 _ rfl
        have dbn4 := bn_32.out.cell 4 _ rfl
        have dbn5 := bn_32.out.cell 5 _ rfl
        have dbn6 := bn_32.out.cell 6 _ rfl
        have cn0 := (ARGn.out.below BB.out).cell 0 _ rfl
        have cn1 := (ARGn.out.below BB.out).cell 1 _ rfl
        have cn2 := (ARGn.out.below BB.out).cell 2 _ rfl
        have cn3 := (ARGn.out.below BB.out).cell 3 _ rfl
        have cn4 := (ARGn.out.below BB.out).cell 4 _ rfl
        have cn5 := (ARGn.out.below BB.out).cell 5 _ rfl
        have cn6 := (ARGn.out.below BB.out).cell 6 _ rfl
        go_wp2_with fail
        go_region_law (go_simp; first | (go_at_call 8; refine (HTn.out _ (An.out.kept (BB.out.trans ((Below.refl _ _).drew.mono BB.out.size)).block)).mono ?_; rintro e m_36 ⟨usm_36, Fm_36, rfl, hom_36, _, hb_37⟩; have qm_360 := (bn_32.out.below ((Below.refl w9.heap.size w9).drew.trans (hb_37.mono (Nat.le_refl _)))).cell 0 _ rfl; have qm_361 := (bn_32.out.below ((Below.refl w9.heap.size w9).drew.trans (hb_37.mono (Nat.le_refl _)))).cell 1 _ rfl; have qm_362 := (bn_32.out.below ((Below.refl w9.heap.size w9).drew.trans (hb_37.mono (Nat.le_refl _)))).cell 2 _ rfl; have qm_363 := (bn_32.out.below ((Below.refl w9.heap.size w9).drew.trans (hb_37.mono (Nat.le_refl _)))).cell 3 _ rfl; have qm_364 := (bn_32.out.below ((Below.refl w9.heap.size w9).drew.trans (hb_37.mono (Nat.le_refl _)))).cell 4 _ rfl; have qm_365 := (bn_32.out.below ((Below.refl w9.heap.size w9).drew.trans (hb_37.mono (Nat.le_refl _)))).cell 5 _ rfl; have qm_366 := (bn_32.out.below ((Below.refl w9.heap.size w9).drew.trans (hb_37.mono (Nat.le_refl _)))).cell 6 _ rfl) | (go_at_call 10; refine (HEn.out _ _ _ _ _ (bn_30.out.kept ((Below.refl _ _).drew.trans (hb_37.mono (Nat.le_refl _))).block) hom_36.lies).mono ?_; rintro e w10 ⟨rfl, hb_39⟩))
        all_goals
          have hb_38 : Below w9.heap.size w9 w10 := below_link ((Below.refl _ _).drew.trans (hb_37.mono (Nat.le_refl _))) hb_39 hb_37.size
          clear hom_36 hb_37 hb_39 qm_360 qm_361 qm_362 qm_363 qm_364 qm_365 qm_366
          have bn_40 := Lib.hid (bn_30.out.kept hb_38.block)
          have bm_41 := Lib.hid (bm_31.out.kept hb_38.block)
          have bn_42 := Lib.hid (bn_32.out.below hb_38)
          have bm_43 := Lib.hid (bm_33.out.below hb_38)
          have BB_44 := Lib.hid (below_link BB.out hb_38 BB.out.size)
          clear BB
          have BB := BB_44
          clear BB_44
          have S_45 := Lib.hid (show w9.heap.size ≤ w10.heap.size from hb_38.size)
          clear bn_32 bm_33 dbn0 dbn1 dbn2 dbn3 dbn4 dbn5 dbn6 cn0 cn1 cn2 cn3 cn4 cn5 cn6 bn_30 bm_31 hb_38
          have dbm0 := bm_43.out.cell 0 _ rfl
          have dbm1 := bm_43.out.cell 1 _ rfl
          have dbm2 := bm_43.out.cell 2 _ rfl
          have dbm3 := bm_43.out.cell 3 _ rfl
          have dbm4 := bm_43.out.cell 4 _ rfl
          have dbm5 := bm_43.out.cell 5 _ rfl
          have dbm6 := bm_43.out.cell 6 _ rfl
          have cm0 := (ARGm.out.below BB.out).cell 0 _ rfl
          have cm1 := (ARGm.out.below BB.out).cell 1 _ rfl
          have cm2 := (ARGm.out.below BB.out).cell 2 _ rfl
          have cm3 := (ARGm.out.below BB.out).cell 3 _ rfl
          have cm4 := (ARGm.out.below BB.out).cell 4 _ rfl
          have cm5 := (ARGm.out.below BB.out).cell 5 _ rfl
          have cm6 := (ARGm.out.below BB.out).cell 6 _ rfl
          go_wp2_with fail
          go_region_law (go_simp; first | (go_at_call 8; refine (HTm.out _ (Am.out.kept (BB.out.trans ((Below.refl _ _).drew.mono BB.out.size)).block)).mono ?_; rintro e m_46 ⟨usm_46, Fm_46, rfl, hom_46, _, hb_47⟩; have qm_460 := (bm_43.out.below ((Below.refl w10.heap.size w10).drew.trans (hb_47.mono (Nat.le_refl _)))).cell 0 _ rfl; have qm_461 := (bm_43.out.below ((Below.refl w10.heap.size w10).drew.trans (hb_47.mono (Nat.le_refl _)))).cell 1 _ rfl; have qm_462 := (bm_43.out.below ((Below.refl w10.heap.size w10).drew.trans (hb_47.mono (Nat.le_refl _)))).cell 2 _ rfl; have qm_463 := (bm_43.out.below ((Below.refl w10.heap.size w10).drew.trans (hb_47.mono (Nat.le_refl _)))).cell 3 _ rfl; have qm_464 := (bm_43.out.below ((Below.refl w10.heap.size w10).drew.trans (hb_47.mono (Nat.le_refl _)))).cell 4 _ rfl; have qm_465 := (bm_43.out.below ((Below.refl w10.heap.size w10).drew.trans (hb_47.mono (Nat.le_refl _)))).cell 5 _ rfl; have qm_466 := (bm_43.out.below ((Below.refl w10.heap.size w10).drew.trans (hb_47.mono (Nat.le_refl _)))).cell 6 _ rfl) | (go_at_call 10; refine (HEm.out _ _ _ _ _ (bm_41.out.kept ((Below.refl _ _).drew.trans (hb_47.mono (Nat.le_refl _))).block) hom_46.lies).mono ?_; rintro e w11 ⟨rfl, hb_49⟩))
          all_goals
            have hb_48 : Below w10.heap.size w10 w11 := below_link ((Below.refl _ _).drew.trans (hb_47.mono (Nat.le_refl _))) hb_49 hb_47.size
            clear hom_46 hb_47 hb_49 qm_460 qm_461 qm_462 qm_463 qm_464 qm_465 qm_466
            have bn_50 := Lib.hid (bn_40.out.kept hb_48.block)
            have bm_51 := Lib.hid (bm_41.out.kept hb_48.block)
            have bn_52 := Lib.hid (bn_42.out.below hb_48)
            have bm_53 := Lib.hid (bm_43.out.below hb_48)
            have BB_54 := Lib.hid (below_link BB.out hb_48 BB.out.size)
            clear BB
            have BB := BB_54
            clear BB_54
            have S_55 := Lib.hid (show w10.heap.size ≤ w11.heap.size from hb_48.size)
            clear bn_42 bm_43 dbm0 dbm1 dbm2 dbm3 dbm4 dbm5 dbm6 cm0 cm1 cm2 cm3 cm4 cm5 cm6 bn_40 bm_41 hb_48
            go_wp2_with fail
            go_ret
            exact ⟨rfl, below_link Hb1.out BB.out Hb1.out.size⟩
      exact AllReadyH.nil
    exact AllReadyH.nil
  exact AllReadyH.nil
end Go.Proofs.Ytcfbkfmkjggcdaa.fnExactSamePod
