/- FnExactUntolerated: the law returns true at every argument. Printed by gen/lawl.py. -/
import Derived.Test.YtpadpiibiocabaaDoorUntS
import Derived.Test.YtpadpiibiocabaaDoorGLawO
import Derived.Test.YtpadpiibiocabaaDoorGLawT
import Derived.Test.YtpadpiibiocabaaDoorLawL
import Derived.Test.YtpadpiibiocabaaDoorUntI
namespace Go.Proofs.YtpadpiibiocabaaDoor.fnExactUntolerated
open Go.ChangeShapes Go.WideShapes Go.ChangeAt Go.RowKit
open lab ty taint
set_option linter.unusedVariables false

set_option maxRecDepth 100000 in
set_option maxHeartbeats 8000000 in
theorem walk (l : List Tolerance) (fl : Nat) (vl : Value) (m : List Taint) (fm : Nat) (vm : Value) (i : Int) (W : World) (hl : Lies W fl vl (.sl 4 l.length (l.flatMap Tolerance.row))) (hm : Lies W fm vm (.sl 3 m.length (m.flatMap Taint.row))) (hi : (Lit.int .i64 i).wf = true) :
    Calls Tryd.prog 9 #[vl, vm, .int .i64 i] W fun e w' => e = .returned (.bool true) ∧ Below W.heap.size W w' := by
  have Al := Lib.hid hl
  have Am := Lib.hid hm
  obtain ⟨zl, hzl⟩ : ∃ x, x = (l.length + wsum Tolerance.wt l) := ⟨_, rfl⟩
  obtain ⟨zm, hzm⟩ : ∃ x, x = (m.length + wsum Taint.wt m) := ⟨_, rfl⟩
  by_cases cl : (1048576 : Int) < (zl : Int)
  · skip
    have HZl := Lib.hid (fun w hw => szToleranceS l fl vl (1048576) w hw (by unfold LeftN; omega))
    rw [← hzl, cutN_no (show (1048576 : Int) < (zl : Int) by omega)] at HZl
    clear hl hzl hm hzm cl
    go_enter Tryd.func9, Tryd.ntmps9
    go_wp2_with fail
    refine (HZl.out _ Al.out).mono ?_
    rintro e w1 ⟨rfl, hb_1⟩
    have BB := Lib.hid hb_1
    have S_2 := Lib.hid (show W.heap.size ≤ w1.heap.size from hb_1.size)
    clear  hb_1
    go_wp2_with fail
    go_ret
    exact ⟨rfl, BB.out⟩
  by_cases cm : (1048576 - (zl : Int) : Int) < (zm : Int)
  · skip
    have HZl := Lib.hid (fun w hw => szToleranceS l fl vl (1048576) w hw (by unfold LeftN; omega))
    rw [← hzl, cutN_yes (show ¬ (1048576 : Int) < (zl : Int) by omega)] at HZl
    have kl : ¬ 1048576 - (zl : Int) < 0 := by omega
    have HZm := Lib.hid (fun w hw => szTaintS m fm vm (1048576 - (zl : Int)) w hw (by unfold LeftN; omega))
    rw [← hzm, cutN_no (show (1048576 - (zl : Int) : Int) < (zm : Int) by omega)] at HZm
    clear hl hzl hm hzm cl cm
    generalize 1048576 - (zl : Int) = yl at HZl kl HZm
    go_enter Tryd.func9, Tryd.ntmps9
    go_wp2_with fail
    refine (HZl.out _ Al.out).mono ?_
    rintro e w1 ⟨rfl, hb_1⟩
    have BB := Lib.hid hb_1
    have S_2 := Lib.hid (show W.heap.size ≤ w1.heap.size from hb_1.size)
    clear  hb_1
    go_wp2_with fail
    refine (HZm.out _ (Am.out.below BB.out)).mono ?_
    rintro e w2 ⟨rfl, hb_3⟩
    have BB_4 := Lib.hid (below_link BB.out hb_3 BB.out.size)
    clear BB
    have BB := BB_4
    clear BB_4
    have S_5 := Lib.hid (show w1.heap.size ≤ w2.heap.size from hb_3.size)
    clear  hb_3
    go_wp2_with fail
    go_ret
    exact ⟨rfl, BB.out⟩
  have HZl := Lib.hid (fun w hw => szToleranceS l fl vl (1048576) w hw (by unfold LeftN; omega))
  rw [← hzl, cutN_yes cl] at HZl
  have kl : ¬ 1048576 - (zl : Int) < 0 := by omega
  have HZm := Lib.hid (fun w hw => szTaintS m fm vm (1048576 - (zl : Int)) w hw (by unfold LeftN; omega))
  rw [← hzm, cutN_yes cm] at HZm
  have km : ¬ 1048576 - (zl : Int) - (zm : Int) < 0 := by omega
  have nl : l.length ≤ 1048576 := by omega
  have ql : wsum Tolerance.wt l ≤ 1048576 := by omega
  have nm : m.length ≤ 1048576 := by omega
  have qm : wsum Taint.wt m ≤ 1048576 := by omega
  have HTl := Lib.hid (fun w hw => toToleranceS l fl vl w hw nl)
  have HTm := Lib.hid (fun w hw => toTaintS m fm vm w hw nm)
  have HETolerance := Lib.hid (fun l f1 f2 v1 v2 w h1 h2 => eqToleranceS l f1 f2 v1 v2 w h1 h2)
  have HETaint := Lib.hid (fun l f1 f2 v1 v2 w h1 h2 => eqTaintS l f1 f2 v1 v2 w h1 h2)
  have HS := Lib.hid (fun gl xl gm xm w hl hm => spec_untol l m i gl gm xl xm w hl hm ql qm)
  have HI := Lib.hid (fun gl xl gm xm w hl hm => impl_untol l m i gl gm xl xm w hl hm)
  generalize unF l m i = R at HS HI
  clear hl hm hzl cl nl ql hzm cm nm qm
  generalize 1048576 - (zl : Int) = yl at HZl kl HZm km
  generalize yl - (zm : Int) = ym at HZm km
  go_enter Tryd.func9, Tryd.ntmps9
  go_wp2_with fail
  refine (HZl.out _ Al.out).mono ?_
  rintro e w1 ⟨rfl, hb_1⟩
  have BB := Lib.hid hb_1
  have S_2 := Lib.hid (show W.heap.size ≤ w1.heap.size from hb_1.size)
  clear  hb_1
  go_wp2_with fail
  refine (HZm.out _ (Am.out.below BB.out)).mono ?_
  rintro e w2 ⟨rfl, hb_3⟩
  have BB_4 := Lib.hid (below_link BB.out hb_3 BB.out.size)
  clear BB
  have BB := BB_4
  clear BB_4
  have S_5 := Lib.hid (show w1.heap.size ≤ w2.heap.size from hb_3.size)
  clear  hb_3
  go_wp2_with fail
  refine (HTl.out _ (Al.out.below BB.out)).mono ?_
  rintro e w3 ⟨xal, rfl, rowal, hb_6⟩
  obtain ⟨Fal, oal, dal, ral⟩ := rowal.own
  clear rowal
  have BB_7 := Lib.hid (below_link BB.out hb_6 BB.out.size)
  clear BB
  have BB := BB_7
  clear BB_7
  have S_8 := Lib.hid (show w2.heap.size ≤ w3.heap.size from hb_6.size)
  clear  hb_6
  have Oal := Lib.hid oal
  have Ral := Lib.hid (show ∀ x ∈ Fal, w2.heap.size ≤ x ∧ x < w3.heap.size from ral)
  have Dal := Lib.hid dal
  clear oal ral dal
  go_wp2_with fail
  refine (HTm.out _ (Am.out.below BB.out)).mono ?_
  rintro e w4 ⟨xam, rfl, rowam, hb_9⟩
  obtain ⟨Fam, oam, dam, ram⟩ := rowam.own
  clear rowam
  have al_10 := Lib.hid (Oal.out.below hb_9)
  have BB_11 := Lib.hid (below_link BB.out hb_9 BB.out.size)
  clear BB
  have BB := BB_11
  clear BB_11
  have S_12 := Lib.hid (show w3.heap.size ≤ w4.heap.size from hb_9.size)
  clear Oal hb_9
  have Oam := Lib.hid oam
  have Ram := Lib.hid (show ∀ x ∈ Fam, w3.heap.size ≤ x ∧ x < w4.heap.size from ram)
  have Dam := Lib.hid dam
  clear oam ram dam
  go_wp2_with fail
  refine (HS.out _ _ _ _ _ al_10.out.lies Oam.out.lies).mono ?_
  rintro e w5 ⟨rfl, hb_13⟩
  have al_14 := Lib.hid (al_10.out.below hb_13)
  have am_15 := Lib.hid (Oam.out.below hb_13)
  have BB_16 := Lib.hid (below_link BB.out hb_13 BB.out.size)
  clear BB
  have BB := BB_16
  clear BB_16
  have S_17 := Lib.hid (show w4.heap.size ≤ w5.heap.size from hb_13.size)
  clear al_10 Oam hb_13
  go_wp2_with fail
  refine (HTl.out _ (Al.out.below BB.out)).mono ?_
  rintro e w6 ⟨xbl, rfl, rowbl, hb_18⟩
  obtain ⟨Fbl, obl, dbl, rbl⟩ := rowbl.own
  clear rowbl
  have BB_19 := Lib.hid (below_link BB.out hb_18 BB.out.size)
  clear BB
  have BB := BB_19
  clear BB_19
  have S_20 := Lib.hid (show w5.heap.size ≤ w6.heap.size from hb_18.size)
  clear  hb_18
  have Obl := Lib.hid obl
  have Rbl := Lib.hid (show ∀ x ∈ Fbl, w5.heap.size ≤ x ∧ x < w6.heap.size from rbl)
  have Dbl := Lib.hid dbl
  clear obl rbl dbl
  go_wp2_with fail
  refine (HTm.out _ (Am.out.below BB.out)).mono ?_
  rintro e w7 ⟨xbm, rfl, rowbm, hb_21⟩
  obtain ⟨Fbm, obm, dbm, rbm⟩ := rowbm.own
  clear rowbm
  have bl_22 := Lib.hid (Obl.out.below hb_21)
  have BB_23 := Lib.hid (below_link BB.out hb_21 BB.out.size)
  clear BB
  have BB := BB_23
  clear BB_23
  have S_24 := Lib.hid (show w6.heap.size ≤ w7.heap.size from hb_21.size)
  clear Obl hb_21
  have Obm := Lib.hid obm
  have Rbm := Lib.hid (show ∀ x ∈ Fbm, w6.heap.size ≤ x ∧ x < w7.heap.size from rbm)
  have Dbm := Lib.hid dbm
  clear obm rbm dbm
  go_wp2_with fail
  refine (HI.out _ _ _ _ _ bl_22.out.lies Obm.out.lies).mono ?_
  rintro e w8 ⟨rfl, hb_25⟩
  have bl_26 := Lib.hid (bl_22.out.below hb_25)
  have bm_27 := Lib.hid (Obm.out.below hb_25)
  have BB_28 := Lib.hid (below_link BB.out hb_25 BB.out.size)
  clear BB
  have BB := BB_28
  clear BB_28
  have S_29 := Lib.hid (show w7.heap.size ≤ w8.heap.size from hb_25.size)
  clear bl_22 Obm hb_25
  go_wp2_with fail
  refine (HTl.out _ (Al.out.below BB.out)).mono ?_
  rintro e w9 ⟨xcl, rfl, rowcl, hb_30⟩
  obtain ⟨Fcl, ocl, dcl, rcl⟩ := rowcl.own
  clear rowcl
  have bl_31 := Lib.hid (bl_26.out.below hb_30)
  have bm_32 := Lib.hid (bm_27.out.below hb_30)
  have BB_33 := Lib.hid (below_link BB.out hb_30 BB.out.size)
  clear BB
  have BB := BB_33
  clear BB_33
  have S_34 := Lib.hid (show w8.heap.size ≤ w9.heap.size from hb_30.size)
  clear bl_26 bm_27 hb_30
  have Ocl := Lib.hid ocl
  have Rcl := Lib.hid (show ∀ x ∈ Fcl, w8.heap.size ≤ x ∧ x < w9.heap.size from rcl)
  have Dcl := Lib.hid dcl
  clear ocl rcl dcl
  go_wp2_with fail
  refine (HETolerance.out _ _ _ _ _ _ bl_31.out.lies Ocl.out.lies).mono ?_
  rintro e w10 ⟨rfl, hb_35⟩
  have bl_36 := Lib.hid (bl_31.out.below hb_35)
  have bm_37 := Lib.hid (bm_32.out.below hb_35)
  have cl_38 := Lib.hid (Ocl.out.below hb_35)
  have BB_39 := Lib.hid (below_link BB.out hb_35 BB.out.size)
  clear BB
  have BB := BB_39
  clear BB_39
  have S_40 := Lib.hid (show w9.heap.size ≤ w10.heap.size from hb_35.size)
  clear bl_31 bm_32 Ocl hb_35
  go_wp2_with fail
  refine (HTm.out _ (Am.out.below BB.out)).mono ?_
  rintro e w11 ⟨xcm, rfl, rowcm, hb_41⟩
  obtain ⟨Fcm, ocm, dcm, rcm⟩ := rowcm.own
  clear rowcm
  have bl_42 := Lib.hid (bl_36.out.below hb_41)
  have bm_43 := Lib.hid (bm_37.out.below hb_41)
  have BB_44 := Lib.hid (below_link BB.out hb_41 BB.out.size)
  clear BB
  have BB := BB_44
  clear BB_44
  have S_45 := Lib.hid (show w10.heap.size ≤ w11.heap.size from hb_41.size)
  clear bl_36 bm_37 hb_41
  have Ocm := Lib.hid ocm
  have Rcm := Lib.hid (show ∀ x ∈ Fcm, w10.heap.size ≤ x ∧ x < w11.heap.size from rcm)
  have Dcm := Lib.hid dcm
  clear ocm rcm dcm
  go_wp2_with fail
  refine (HETaint.out _ _ _ _ _ _ bm_43.out.lies Ocm.out.lies).mono ?_
  rintro e w12 ⟨rfl, hb_46⟩
  have bl_47 := Lib.hid (bl_42.out.below hb_46)
  have bm_48 := Lib.hid (bm_43.out.below hb_46)
  have cm_49 := Lib.hid (Ocm.out.below hb_46)
  have BB_50 := Lib.hid (below_link BB.out hb_46 BB.out.size)
  clear BB
  have BB := BB_50
  clear BB_50
  have S_51 := Lib.hid (show w11.heap.size ≤ w12.heap.size from hb_46.size)
  clear bl_42 bm_43 Ocm hb_46
  go_wp2_with fail
  go_ret
  exact ⟨rfl, BB.out⟩
end Go.Proofs.YtpadpiibiocabaaDoor.fnExactUntolerated
