/- FnExactToleranceOk: the law returns true at every argument. Printed by gen/lawf.py. -/
import Derived.Test.YtpadpiibiocabaaDoorGSp
import Derived.Test.YtpadpiibiocabaaDoorGIm
import Derived.Test.YtpadpiibiocabaaDoorGLawO
import Derived.Test.YtpadpiibiocabaaDoorGQ
import Derived.Test.YtpadpiibiocabaaDoorGPre
namespace Go.Proofs.YtpadpiibiocabaaDoor.fnExactToleranceOk
open Go.ChangeShapes Go.WideShapes Go.ChangeAt Go.RowKit lab ty taint
set_option linter.unusedVariables false

set_option maxRecDepth 100000 in
set_option maxHeartbeats 16000000 in
theorem walk (x : Tolerance) (fx : Nat) (ux : List Value) (W : World) (hx : LiesS W fx ux x.row) :
    Calls Tryd.prog 6 #[.agg ux.toArray] W fun e w' => e = .returned (.bool true) ∧ Below W.heap.size W w' := by
  obtain ⟨rfl, wx⟩ := Tolerance.opened hx
  clear hx
  obtain ⟨w1, hw1⟩ : ∃ w1, w1 = (W.alloc (.cells #[.string x.key, .bool x.equal, .string x.value, .int .i64 x.effect] 47)) := ⟨_, rfl⟩
  have rx : RowE 47 w1 W.heap.size [.string x.key, .bool x.equal, .string x.value, .int .i64 x.effect] := by rw [hw1]; exact RowE.new _ _ _
  have hb1 : Below W.heap.size W w1 := by rw [hw1]; exact (Below.refl _ _).alloc (Nat.le_refl _) _
  have BB := Lib.hid hb1
  have HW := Lib.hid hw1
  have Rx := Lib.hid rx
  clear hw1 hb1 rx
  obtain ⟨zx, hzx⟩ : ∃ z, z = x.wt := ⟨_, rfl⟩
  by_cases gx : (1048576 : Int) < (zx : Int)
  · skip
    have HZx := Lib.hid (fun w => szTolerance x (1048576) w wx (by unfold LeftN; omega))
    rw [← hzx, cutN_no (show (1048576 : Int) < (zx : Int) by omega)] at HZx
    clear hzx gx
    go_enter Tryd.func6, Tryd.ntmps6
    have cx0 := Rx.out.cell 0 _ rfl
    have cx1 := Rx.out.cell 1 _ rfl
    have cx2 := Rx.out.cell 2 _ rfl
    have cx3 := Rx.out.cell 3 _ rfl
    rw [HW.out] at cx0 cx1 cx2 cx3
    go_wp2_with fail
    rw [← HW.out]
    refine (HZx.out _).mono ?_
    rintro e w2 ⟨rfl, hb⟩
    clear cx0 cx1 cx2 cx3
    have Rx' := Lib.hid (Rx.out.below hb)
    clear Rx
    have Rx := Rx'
    clear Rx'
    have BB' := Lib.hid (below_link BB.out hb BB.out.size)
    clear BB hb
    have BB := BB'
    clear BB'
    go_wp2_with fail
    go_ret
    exact ⟨rfl, BB.out⟩
  have HZx := Lib.hid (fun w => szTolerance x (1048576) w wx (by unfold LeftN; omega))
  rw [← hzx, cutN_yes (show ¬ (1048576 : Int) < (zx : Int) by omega)] at HZx
  have kx : ¬ 1048576 - (zx : Int) < 0 := by omega
  have tx : x.wt ≤ 1048576 := by omega
  have HTx := Lib.hid (fun w => toTolerance x w wx)
  have HS := Lib.hid (fun w => spec_tol x w tx)
  have HI := Lib.hid (fun w => impl_tol x w wx)
  generalize yes (TolP x) = R at HS HI
  clear hzx gx tx wx
  generalize 1048576 - (zx : Int) = yx at HZx kx
  go_enter Tryd.func6, Tryd.ntmps6
  have cx0 := Rx.out.cell 0 _ rfl
  have cx1 := Rx.out.cell 1 _ rfl
  have cx2 := Rx.out.cell 2 _ rfl
  have cx3 := Rx.out.cell 3 _ rfl
  rw [HW.out] at cx0 cx1 cx2 cx3
  go_wp2_with fail
  rw [← HW.out]
  refine (HZx.out _).mono ?_
  rintro e w2 ⟨rfl, hb⟩
  clear cx0 cx1 cx2 cx3
  have Rx' := Lib.hid (Rx.out.below hb)
  clear Rx
  have Rx := Rx'
  clear Rx'
  have BB' := Lib.hid (below_link BB.out hb BB.out.size)
  clear BB hb
  have BB := BB'
  clear BB'
  have cx0 := Rx.out.cell 0 _ rfl
  have cx1 := Rx.out.cell 1 _ rfl
  have cx2 := Rx.out.cell 2 _ rfl
  have cx3 := Rx.out.cell 3 _ rfl
  go_wp2_with fail
  refine (HTx.out _).mono ?_
  rintro e w3 ⟨rfl, hb⟩
  clear cx0 cx1 cx2 cx3
  have Rx' := Lib.hid (Rx.out.below hb)
  clear Rx
  have Rx := Rx'
  clear Rx'
  have BB' := Lib.hid (below_link BB.out hb BB.out.size)
  clear BB hb
  have BB := BB'
  clear BB'
  go_wp2_with fail
  refine (HS.out _).mono ?_
  rintro e w4 ⟨rfl, hb⟩
  have Rx' := Lib.hid (Rx.out.below hb)
  clear Rx
  have Rx := Rx'
  clear Rx'
  have BB' := Lib.hid (below_link BB.out hb BB.out.size)
  clear BB hb
  have BB := BB'
  clear BB'
  have cx0 := Rx.out.cell 0 _ rfl
  have cx1 := Rx.out.cell 1 _ rfl
  have cx2 := Rx.out.cell 2 _ rfl
  have cx3 := Rx.out.cell 3 _ rfl
  go_wp2_with fail
  refine (HTx.out _).mono ?_
  rintro e w5 ⟨rfl, hb⟩
  clear cx0 cx1 cx2 cx3
  have Rx' := Lib.hid (Rx.out.below hb)
  clear Rx
  have Rx := Rx'
  clear Rx'
  have BB' := Lib.hid (below_link BB.out hb BB.out.size)
  clear BB hb
  have BB := BB'
  clear BB'
  go_wp2_with fail
  refine (HI.out _).mono ?_
  rintro e w6 ⟨rfl, hb⟩
  have Rx' := Lib.hid (Rx.out.below hb)
  clear Rx
  have Rx := Rx'
  clear Rx'
  have BB' := Lib.hid (below_link BB.out hb BB.out.size)
  clear BB hb
  have BB := BB'
  clear BB'
  go_wp2_with fail
  go_ret
  exact ⟨rfl, BB.out⟩
end Go.Proofs.YtpadpiibiocabaaDoor.fnExactToleranceOk
