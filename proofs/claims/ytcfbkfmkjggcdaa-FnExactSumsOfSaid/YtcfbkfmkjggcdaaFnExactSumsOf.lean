/- FnExactSumsOf: the law returns true at every argument. Printed by gen/lawl.py. -/
import Derived.Test.YtcfbkfmkjggcdaaGA17
import Derived.Test.YtcfbkfmkjggcdaaGA3
import Derived.Test.YtcfbkfmkjggcdaaGA18
namespace Go.Proofs.Ytcfbkfmkjggcdaa.fnExactSumsOf
open Go.ChangeShapes Go.WideShapes Go.ChangeAt Go.RowKit
open lab ty pod
set_option linter.unusedVariables false

set_option maxRecDepth 100000 in
set_option maxHeartbeats 8000000 in
theorem walk (l : List Pod) (fl : Nat) (vl : Value) (W : World) (hl : Lies W fl vl (.sl 7 l.length (l.flatMap Pod.row))) :
    Calls Try.prog 5 #[vl] W fun e w' => e = .returned (.bool true) ∧ Below W.heap.size W w' := by
  have Al := Lib.hid hl
  obtain ⟨zl, hzl⟩ : ∃ x, x = (l.length + wsum Pod.wt l) := ⟨_, rfl⟩
  by_cases cl : (1048576 : Int) < (zl : Int)
  · skip
    have HZl := Lib.hid (fun w hw => szPodS l fl vl (1048576) w hw (by unfold LeftN; omega))
    rw [← hzl, cutN_no (show (1048576 : Int) < (zl : Int) by omega)] at HZl
    clear hl hzl cl
    go_enter Try.func5, Try.ntmps5
    go_wp2_with fail
    refine (HZl.out _ Al.out).mono ?_
    rintro e w1 ⟨rfl, hb_1⟩
    have BB := Lib.hid hb_1
    have S_2 := Lib.hid (show W.heap.size ≤ w1.heap.size from hb_1.size)
    clear  hb_1
    go_wp2_with fail
    go_ret
    exact ⟨rfl, BB.out⟩
  have HZl := Lib.hid (fun w hw => szPodS l fl vl (1048576) w hw (by unfold LeftN; omega))
  rw [← hzl, cutN_yes cl] at HZl
  have kl : ¬ 1048576 - (zl : Int) < 0 := by omega
  have nl : l.length ≤ 1048576 := by omega
  have ql : wsum Pod.wt l ≤ 1048576 := by omega
  have tl : l.length + wsum Pod.wt l ≤ 1048576 := by omega
  have HTl := Lib.hid (fun w hw => toPodS l fl vl w hw tl)
  have HEPod := Lib.hid (fun l f1 f2 v1 v2 w h1 h2 => eqPodS l f1 f2 v1 v2 w h1 h2)
  have HS := Lib.hid (fun gl xl w hl => (spec_sums l gl xl w hl nl))
  have HI := Lib.hid (fun gl xl w hl => impl_sums l gl xl w hl nl)
  obtain ⟨Ra, Rb, Rc, hR⟩ := sumsV_is l
  rw [hR] at HS HI
  clear hR
  clear hl hzl cl nl ql tl
  generalize 1048576 - (zl : Int) = yl at HZl kl
  go_enter Try.func5, Try.ntmps5
  go_wp2_with fail
  refine (HZl.out _ Al.out).mono ?_
  rintro e w1 ⟨rfl, hb_1⟩
  have BB := Lib.hid hb_1
  have S_2 := Lib.hid (show W.heap.size ≤ w1.heap.size from hb_1.size)
  clear  hb_1
  go_wp2_with fail
  refine (HTl.out _ (Al.out.below BB.out)).mono ?_
  rintro e w2 ⟨xal, rfl, rowal, hb_3⟩
  obtain ⟨Fal, oal, dal, ral⟩ := rowal.own
  clear rowal
  have BB_4 := Lib.hid (below_link BB.out hb_3 BB.out.size)
  clear BB
  have BB := BB_4
  clear BB_4
  have S_5 := Lib.hid (show w1.heap.size ≤ w2.heap.size from hb_3.size)
  clear  hb_3
  have Oal := Lib.hid oal
  have Ral := Lib.hid (show ∀ x ∈ Fal, w1.heap.size ≤ x ∧ x < w2.heap.size from ral)
  have Dal := Lib.hid dal
  clear oal ral dal
  go_wp2_with fail
  refine (HS.out _ _ _ Oal.out.lies).mono ?_
  rintro e w3 ⟨rfl, hb_6⟩
  have al_7 := Lib.hid (Oal.out.below hb_6)
  have BB_8 := Lib.hid (below_link BB.out hb_6 BB.out.size)
  clear BB
  have BB := BB_8
  clear BB_8
  have S_9 := Lib.hid (show w2.heap.size ≤ w3.heap.size from hb_6.size)
  clear Oal hb_6
  go_wp2_with fail
  refine (HTl.out _ (Al.out.below BB.out)).mono ?_
  rintro e w4 ⟨xbl, rfl, rowbl, hb_10⟩
  obtain ⟨Fbl, obl, dbl, rbl⟩ := rowbl.own
  clear rowbl
  have BB_11 := Lib.hid (below_link BB.out hb_10 BB.out.size)
  clear BB
  have BB := BB_11
  clear BB_11
  have S_12 := Lib.hid (show w3.heap.size ≤ w4.heap.size from hb_10.size)
  clear  hb_10
  have Obl := Lib.hid obl
  have Rbl := Lib.hid (show ∀ x ∈ Fbl, w3.heap.size ≤ x ∧ x < w4.heap.size from rbl)
  have Dbl := Lib.hid dbl
  clear obl rbl dbl
  go_wp2_with fail
  refine (HI.out _ _ _ Obl.out.lies).mono ?_
  rintro e w5 ⟨rfl, hb_13⟩
  have bl_14 := Lib.hid (Obl.out.below hb_13)
  have BB_15 := Lib.hid (below_link BB.out hb_13 BB.out.size)
  clear BB
  have BB := BB_15
  clear BB_15
  have S_16 := Lib.hid (show w4.heap.size ≤ w5.heap.size from hb_13.size)
  clear Obl hb_13
  go_wp2_with fail
  refine (HTl.out _ (Al.out.below BB.out)).mono ?_
  rintro e w6 ⟨xcl, rfl, rowcl, hb_17⟩
  obtain ⟨Fcl, ocl, dcl, rcl⟩ := rowcl.own
  clear rowcl
  have bl_18 := Lib.hid (bl_14.out.below hb_17)
  have BB_19 := Lib.hid (below_link BB.out hb_17 BB.out.size)
  clear BB
  have BB := BB_19
  clear BB_19
  have S_20 := Lib.hid (show w5.heap.size ≤ w6.heap.size from hb_17.size)
  clear bl_14 hb_17
  have Ocl := Lib.hid ocl
  have Rcl := Lib.hid (show ∀ x ∈ Fcl, w5.heap.size ≤ x ∧ x < w6.heap.size from rcl)
  have Dcl := Lib.hid dcl
  clear ocl rcl dcl
  go_wp2_with fail
  refine (HEPod.out _ _ _ _ _ _ bl_18.out.lies Ocl.out.lies).mono ?_
  rintro e w7 ⟨rfl, hb_21⟩
  have bl_22 := Lib.hid (bl_18.out.below hb_21)
  have cl_23 := Lib.hid (Ocl.out.below hb_21)
  have BB_24 := Lib.hid (below_link BB.out hb_21 BB.out.size)
  clear BB
  have BB := BB_24
  clear BB_24
  have S_25 := Lib.hid (show w6.heap.size ≤ w7.heap.size from hb_21.size)
  clear bl_18 Ocl hb_21
  go_wp2_with fail
  go_ret
  exact ⟨rfl, BB.out⟩
end Go.Proofs.Ytcfbkfmkjggcdaa.fnExactSumsOf
