/- FnExactTolerates: the law returns true at every argument. Printed by gen/lawf.py. -/
import Derived.Test.YtpadpiibiocabaaDoorTlrtS
import Derived.Test.YtpadpiibiocabaaDoorTlrtI
import Derived.Test.YtpadpiibiocabaaDoorGLawO
import Derived.Test.YtpadpiibiocabaaDoorGLawT
import Derived.Test.YtpadpiibiocabaaDoorGQ
import Derived.Test.YtpadpiibiocabaaDoorGPre
namespace Go.Proofs.YtpadpiibiocabaaDoor.fnExactTolerates
open Go.ChangeShapes Go.WideShapes Go.ChangeAt Go.RowKit lab ty taint
set_option linter.unusedVariables false

set_option maxRecDepth 100000 in
set_option maxHeartbeats 16000000 in
theorem walk (t : Tolerance) (ft : Nat) (ut : List Value) (x : Taint) (fx : Nat) (ux : List Value) (W : World) (ht : LiesS W ft ut t.row) (hx : LiesS W fx ux x.row) :
    Calls Tryd.prog 8 #[.agg ut.toArray, .agg ux.toArray] W fun e w' => e = .returned (.bool true) ∧ Below W.heap.size W w' := by
  obtain ⟨rfl, wt⟩ := Tolerance.opened ht
  clear ht
  obtain ⟨rfl, wx⟩ := Taint.opened hx
  clear hx
  obtain ⟨w1, hw1⟩ : ∃ w1, w1 = ((W.alloc (.cells #[.string t.key, .bool t.equal, .string t.value, .int .i64 t.effect] 47)).alloc (.cells #[.string x.key, .string x.value, .int .i64 x.effect] 37)) := ⟨_, rfl⟩
  have rt : RowE 47 w1 W.heap.size [.string t.key, .bool t.equal, .string t.value, .int .i64 t.effect] := by rw [hw1]; exact (RowE.new _ _ _).alloc
  have rx : RowE 37 w1 (W.heap.size + 1) [.string x.key, .string x.value, .int .i64 x.effect] := by
    have h := RowE.new 37 (W.alloc (.cells #[.string t.key, .bool t.equal, .string t.value, .int .i64 t.effect] 47)) [.string x.key, .string x.value, .int .i64 x.effect]
    rw [show (W.alloc (.cells #[.string t.key, .bool t.equal, .string t.value, .int .i64 t.effect] 47)).heap.size = W.heap.size + 1 by simp] at h
    rw [hw1]; exact h
  have hb1 : Below W.heap.size W w1 := by rw [hw1]; exact ((Below.refl _ _).alloc (Nat.le_refl _) _).alloc (by simp) _
  have BB := Lib.hid hb1
  have HW := Lib.hid hw1
  have Rt := Lib.hid rt
  have Rx := Lib.hid rx
  clear hw1 hb1 rt rx
  obtain ⟨zt, hzt⟩ : ∃ z, z = t.wt := ⟨_, rfl⟩
  obtain ⟨zx, hzx⟩ : ∃ z, z = x.wt := ⟨_, rfl⟩
  by_cases gt : (1048576 : Int) < (zt : Int)
  · skip
    have HZt := Lib.hid (fun w => szTolerance t (1048576) w wt (by unfold LeftN; omega))
    rw [← hzt, cutN_no (show (1048576 : Int) < (zt : Int) by omega)] at HZt
    clear hzt hzx gt
    go_enter Tryd.func8, Tryd.ntmps8
    have ct0 := Rt.out.cell 0 _ rfl
    have ct1 := Rt.out.cell 1 _ rfl
    have ct2 := Rt.out.cell 2 _ rfl
    have ct3 := Rt.out.cell 3 _ rfl
    have cx0 := Rx.out.cell 0 _ rfl
    have cx1 := Rx.out.cell 1 _ rfl
    have cx2 := Rx.out.cell 2 _ rfl
    rw [HW.out] at ct0 ct1 ct2 ct3
    rw [HW.out] at cx0 cx1 cx2
    go_wp2_with fail
    rw [← HW.out]
    refine (HZt.out _).mono ?_
    rintro e w2 ⟨rfl, hb⟩
    clear ct0 ct1 ct2 ct3 cx0 cx1 cx2
    have Rt' := Lib.hid (Rt.out.below hb)
    clear Rt
    have Rt := Rt'
    clear Rt'
    have Rx' := Lib.hid (Rx.out.below hb)
    clear Rx
    have Rx := Rx'
    clear Rx'
    have BB' := Lib.hid (below_link BB.out hb BB.out.size)
    clear BB hb
    have BB := BB'
    clear BB'
    go_wp2_with fail
    go_ret
    exact ⟨rfl, BB.out⟩
  by_cases gx : (1048576 - (zt : Int) : Int) < (zx : Int)
  · skip
    have HZt := Lib.hid (fun w => szTolerance t (1048576) w wt (by unfold LeftN; omega))
    rw [← hzt, cutN_yes (show ¬ (1048576 : Int) < (zt : Int) by omega)] at HZt
    have kt : ¬ 1048576 - (zt : Int) < 0 := by omega
    have HZx := Lib.hid (fun w => szTaint x (1048576 - (zt : Int)) w wx (by unfold LeftN; omega))
    rw [← hzx, cutN_no (show (1048576 - (zt : Int) : Int) < (zx : Int) by omega)] at HZx
    clear hzt hzx gt gx
    generalize 1048576 - (zt : Int) = yt at HZt HZx kt
    go_enter Tryd.func8, Tryd.ntmps8
    have ct0 := Rt.out.cell 0 _ rfl
    have ct1 := Rt.out.cell 1 _ rfl
    have ct2 := Rt.out.cell 2 _ rfl
    have ct3 := Rt.out.cell 3 _ rfl
    have cx0 := Rx.out.cell 0 _ rfl
    have cx1 := Rx.out.cell 1 _ rfl
    have cx2 := Rx.out.cell 2 _ rfl
    rw [HW.out] at ct0 ct1 ct2 ct3
    rw [HW.out] at cx0 cx1 cx2
    go_wp2_with fail
    rw [← HW.out]
    refine (HZt.out _).mono ?_
    rintro e w2 ⟨rfl, hb⟩
    clear ct0 ct1 ct2 ct3 cx0 cx1 cx2
    have Rt' := Lib.hid (Rt.out.below hb)
    clear Rt
    have Rt := Rt'
    clear Rt'
    have Rx' := Lib.hid (Rx.out.below hb)
    clear Rx
    have Rx := Rx'
    clear Rx'
    have BB' := Lib.hid (below_link BB.out hb BB.out.size)
    clear BB hb
    have BB := BB'
    clear BB'
    have ct0 := Rt.out.cell 0 _ rfl
    have ct1 := Rt.out.cell 1 _ rfl
    have ct2 := Rt.out.cell 2 _ rfl
    have ct3 := Rt.out.cell 3 _ rfl
    have cx0 := Rx.out.cell 0 _ rfl
    have cx1 := Rx.out.cell 1 _ rfl
    have cx2 := Rx.out.cell 2 _ rfl
    go_wp2_with fail
    refine (HZx.out _).mono ?_
    rintro e w3 ⟨rfl, hb⟩
    clear ct0 ct1 ct2 ct3 cx0 cx1 cx2
    have Rt' := Lib.hid (Rt.out.below hb)
    clear Rt
    have Rt := Rt'
    clear Rt'
    have Rx' := Lib.hid (Rx.out.below hb)
    clear Rx
    have Rx := Rx'
    clear Rx'
    have BB' := Lib.hid (below_link BB.out hb BB.out.size)
    clear BB hb
    have BB := BB'
    clear BB'
    go_wp2_with fail
    go_ret
    exact ⟨rfl, BB.out⟩
  have HZt := Lib.hid (fun w => szTolerance t (1048576) w wt (by unfold LeftN; omega))
  rw [← hzt, cutN_yes (show ¬ (1048576 : Int) < (zt : Int) by omega)] at HZt
  have kt : ¬ 1048576 - (zt : Int) < 0 := by omega
  have HZx := Lib.hid (fun w => szTaint x (1048576 - (zt : Int)) w wx (by unfold LeftN; omega))
  rw [← hzx, cutN_yes (show ¬ (1048576 - (zt : Int) : Int) < (zx : Int) by omega)] at HZx
  have kx : ¬ 1048576 - (zt : Int) - (zx : Int) < 0 := by omega
  have tt : t.wt ≤ 1048576 := by omega
  have HTt := Lib.hid (fun w => toTolerance t w wt)
  have tx : x.wt ≤ 1048576 := by omega
  have HTx := Lib.hid (fun w => toTaint x w wx)
  have HS := Lib.hid (fun w => spec_tlr t x w tt tx)
  have HI := Lib.hid (fun w => impl_tlr t x w wt wx)
  generalize tolF t x = R at HS HI
  clear hzt gt tt wt hzx gx tx wx
  generalize 1048576 - (zt : Int) = yt at HZt kt HZx kx
  generalize yt - (zx : Int) = yx at HZx kx
  go_enter Tryd.func8, Tryd.ntmps8
  have ct0 := Rt.out.cell 0 _ rfl
  have ct1 := Rt.out.cell 1 _ rfl
  have ct2 := Rt.out.cell 2 _ rfl
  have ct3 := Rt.out.cell 3 _ rfl
  have cx0 := Rx.out.cell 0 _ rfl
  have cx1 := Rx.out.cell 1 _ rfl
  have cx2 := Rx.out.cell 2 _ rfl
  rw [HW.out] at ct0 ct1 ct2 ct3
  rw [HW.out] at cx0 cx1 cx2
  go_wp2_with fail
  rw [← HW.out]
  refine (HZt.out _).mono ?_
  rintro e w2 ⟨rfl, hb⟩
  clear ct0 ct1 ct2 ct3 cx0 cx1 cx2
  have Rt' := Lib.hid (Rt.out.below hb)
  clear Rt
  have Rt := Rt'
  clear Rt'
  have Rx' := Lib.hid (Rx.out.below hb)
  clear Rx
  have Rx := Rx'
  clear Rx'
  have BB' := Lib.hid (below_link BB.out hb BB.out.size)
  clear BB hb
  have BB := BB'
  clear BB'
  have ct0 := Rt.out.cell 0 _ rfl
  have ct1 := Rt.out.cell 1 _ rfl
  have ct2 := Rt.out.cell 2 _ rfl
  have ct3 := Rt.out.cell 3 _ rfl
  have cx0 := Rx.out.cell 0 _ rfl
  have cx1 := Rx.out.cell 1 _ rfl
  have cx2 := Rx.out.cell 2 _ rfl
  go_wp2_with fail
  refine (HZx.out _).mono ?_
  rintro e w3 ⟨rfl, hb⟩
  clear ct0 ct1 ct2 ct3 cx0 cx1 cx2
  have Rt' := Lib.hid (Rt.out.below hb)
  clear Rt
  have Rt := Rt'
  clear Rt'
  have Rx' := Lib.hid (Rx.out.below hb)
  clear Rx
  have Rx := Rx'
  clear Rx'
  have BB' := Lib.hid (below_link BB.out hb BB.out.size)
  clear BB hb
  have BB := BB'
  clear BB'
  have ct0 := Rt.out.cell 0 _ rfl
  have ct1 := Rt.out.cell 1 _ rfl
  have ct2 := Rt.out.cell 2 _ rfl
  have ct3 := Rt.out.cell 3 _ rfl
  have cx0 := Rx.out.cell 0 _ rfl
  have cx1 := Rx.out.cell 1 _ rfl
  have cx2 := Rx.out.cell 2 _ rfl
  go_wp2_with fail
  have dt0 : ∀ p : BelowBy w3, p.v.cell? ⟨W.heap.size, 0, none⟩ = some (.string t.key) := fun p => (Rt.out.below p.h).cell 0 _ rfl
  have dt1 : ∀ p : BelowBy w3, p.v.cell? ⟨W.heap.size, 1, none⟩ = some (.bool t.equal) := fun p => (Rt.out.below p.h).cell 1 _ rfl
  have dt2 : ∀ p : BelowBy w3, p.v.cell? ⟨W.heap.size, 2, none⟩ = some (.string t.value) := fun p => (Rt.out.below p.h).cell 2 _ rfl
  have dt3 : ∀ p : BelowBy w3, p.v.cell? ⟨W.heap.size, 3, none⟩ = some (.int .i64 t.effect) := fun p => (Rt.out.below p.h).cell 3 _ rfl
  have dx0 : ∀ p : BelowBy w3, p.v.cell? ⟨(W.heap.size + 1), 0, none⟩ = some (.string x.key) := fun p => (Rx.out.below p.h).cell 0 _ rfl
  have dx1 : ∀ p : BelowBy w3, p.v.cell? ⟨(W.heap.size + 1), 1, none⟩ = some (.string x.value) := fun p => (Rx.out.below p.h).cell 1 _ rfl
  have dx2 : ∀ p : BelowBy w3, p.v.cell? ⟨(W.heap.size + 1), 2, none⟩ = some (.int .i64 x.effect) := fun p => (Rx.out.below p.h).cell 2 _ rfl
  clear ct0 ct1 ct2 ct3 cx0 cx1 cx2
  refine wp_region_quiet_below (by kernel_rfl) (by kernel_rfl) ?_
  repeat (refine @wpQuiet_step _ _ _ _ _ _ _ ?_; intro K hK; go_simp; first | (refine hK _ ?_; clear hK K) | (apply Exists.intro; refine ⟨fun _ => ?_, hK _ ?_⟩; (first | (go_at_call 30; exact Calls.below_of (HTt.out _)) | (go_at_call 21; exact Calls.below_of (HTx.out _)) | (go_at_call 19; exact Calls.below_of (HS.out _))); clear hK K))
  refine wpQuiet_nil ?_
  intro _ hw'
  obtain ⟨p, rfl⟩ := hw'
  have hb := p.h
  obtain ⟨w4, hww4⟩ : ∃ q, q = p.v := ⟨_, rfl⟩
  rw [← hww4] at hb ⊢
  clear hww4 dt0 dt1 dt2 dt3 dx0 dx1 dx2
  have Rt' := Lib.hid (Rt.out.below hb)
  clear Rt
  have Rt := Rt'
  clear Rt'
  have Rx' := Lib.hid (Rx.out.below hb)
  clear Rx
  have Rx := Rx'
  clear Rx'
  have BB' := Lib.hid (below_link BB.out hb BB.out.size)
  clear BB hb
  have BB := BB'
  clear BB'
  have ct0 := Rt.out.cell 0 _ rfl
  have ct1 := Rt.out.cell 1 _ rfl
  have ct2 := Rt.out.cell 2 _ rfl
  have ct3 := Rt.out.cell 3 _ rfl
  have cx0 := Rx.out.cell 0 _ rfl
  have cx1 := Rx.out.cell 1 _ rfl
  have cx2 := Rx.out.cell 2 _ rfl
  go_wp2_with fail
  have dt0 : ∀ p : BelowBy w4, p.v.cell? ⟨W.heap.size, 0, none⟩ = some (.string t.key) := fun p => (Rt.out.below p.h).cell 0 _ rfl
  have dt1 : ∀ p : BelowBy w4, p.v.cell? ⟨W.heap.size, 1, none⟩ = some (.bool t.equal) := fun p => (Rt.out.below p.h).cell 1 _ rfl
  have dt2 : ∀ p : BelowBy w4, p.v.cell? ⟨W.heap.size, 2, none⟩ = some (.string t.value) := fun p => (Rt.out.below p.h).cell 2 _ rfl
  have dt3 : ∀ p : BelowBy w4, p.v.cell? ⟨W.heap.size, 3, none⟩ = some (.int .i64 t.effect) := fun p => (Rt.out.below p.h).cell 3 _ rfl
  have dx0 : ∀ p : BelowBy w4, p.v.cell? ⟨(W.heap.size + 1), 0, none⟩ = some (.string x.key) := fun p => (Rx.out.below p.h).cell 0 _ rfl
  have dx1 : ∀ p : BelowBy w4, p.v.cell? ⟨(W.heap.size + 1), 1, none⟩ = some (.string x.value) := fun p => (Rx.out.below p.h).cell 1 _ rfl
  have dx2 : ∀ p : BelowBy w4, p.v.cell? ⟨(W.heap.size + 1), 2, none⟩ = some (.int .i64 x.effect) := fun p => (Rx.out.below p.h).cell 2 _ rfl
  clear ct0 ct1 ct2 ct3 cx0 cx1 cx2
  refine wp_region_quiet_below (by kernel_rfl) (by kernel_rfl) ?_
  repeat (refine @wpQuiet_step _ _ _ _ _ _ _ ?_; intro K hK; go_simp; first | (refine hK _ ?_; clear hK K) | (apply Exists.intro; refine ⟨fun _ => ?_, hK _ ?_⟩; (first | (go_at_call 30; exact Calls.below_of (HTt.out _)) | (go_at_call 21; exact Calls.below_of (HTx.out _)) | (go_at_call 18; exact Calls.below_of (HI.out _))); clear hK K))
  refine wpQuiet_nil ?_
  intro _ hw'
  obtain ⟨p, rfl⟩ := hw'
  have hb := p.h
  obtain ⟨w5, hww5⟩ : ∃ q, q = p.v := ⟨_, rfl⟩
  rw [← hww5] at hb ⊢
  clear hww5 dt0 dt1 dt2 dt3 dx0 dx1 dx2
  have Rt' := Lib.hid (Rt.out.below hb)
  clear Rt
  have Rt := Rt'
  clear Rt'
  have Rx' := Lib.hid (Rx.out.below hb)
  clear Rx
  have Rx := Rx'
  clear Rx'
  have BB' := Lib.hid (below_link BB.out hb BB.out.size)
  clear BB hb
  have BB := BB'
  clear BB'
  go_wp2_with fail
  go_ret
  exact ⟨rfl, BB.out⟩
end Go.Proofs.YtpadpiibiocabaaDoor.fnExactTolerates
