/- Merged: MethI FieldsI TaintI CmpCI CmpTI AscTaint OksTaintI CmpWS CofTaintI. -/
import Derived.Test.YtdgedclpaplgoaaGreatDoorGA22
import Derived.Test.YtdgedclpaplgoaaGreatDoorGA21
import Derived.Test.YtdgedclpaplgoaaGreatDoorGA1
import Derived.Test.YtdgedclpaplgoaaGreatDoorRows
import Derived.ProofKit
import Derived.OpenShut
import Derived.Laws.Cover1
import Derived.Laws.Rows
import Derived.Test.YtdgedclpaplgoaaGreatDoorGA6
import Derived.Test.YtdgedclpaplgoaaGreatDoorGA5
import Derived.Test.YtdgedclpaplgoaaGreatDoorShelf
import Derived.Deep.RegionHeld3
import Derived.Test.YtdgedclpaplgoaaGreatDoorGA20
import Derived.Test.YtdgedclpaplgoaaGreatDoorGA0
import Derived.Test.YtdgedclpaplgoaaGreatDoorCmpW
namespace Go.Proofs.YtdgedclpaplgoaaGreatDoor.taint
open Go.ChangeShapes Go.WideShapes Go.ChangeAt Go.RowKit ty lab need
set_option linter.unusedVariables false

set_option maxRecDepth 100000 in
set_option maxHeartbeats 4000000 in
theorem impl_lab (a b : ByteArray) (n : Int) (w : World) (ha : a.size ≤ maxLen) (hb : b.size ≤ maxLen) :
    Calls Tryz.prog 105 #[.agg #[.string a, .string b, .int .i64 n]] w fun e w' => e = .returned (.bool (yes (KeyP a ∧ ValP b))) ∧ Below w.heap.size w w' := by
  have HL := Lib.hid (fun w' => impl_label ⟨a, b⟩ w' ⟨ha, hb⟩)
  simp only at HL
  generalize yes (KeyP a ∧ ValP b) = R at HL
  clear ha hb
  go_enter Tryz.func105, Tryz.ntmps105
  go_wp2_with fail
  refine (HL.out _).mono ?_
  rintro e w1 ⟨rfl, hb⟩
  go_wp2_with fail
  go_ret
  exact ⟨rfl, (Below.refl _ _).alloc (Nat.le_refl _) _ |>.trans (hb.mono (by simp))⟩
set_option maxRecDepth 100000 in
theorem impl_eff (a b : ByteArray) (n : Int) (w : World) :
    Calls Tryz.prog 106 #[.agg #[.string a, .string b, .int .i64 n]] w fun e w' => e = .returned (.bool (yes (1 ≤ n ∧ n ≤ 2))) ∧ Below w.heap.size w w' := by
  have Hb : Hid (∀ o : Obj, Below w.heap.size w (w.alloc o)) := fun o => (Below.refl _ _).alloc (Nat.le_refl _) o
  by_cases h1 : n = 1
  · rw [yes_t (by omega)]
    subst h1
    go_enter Tryz.func106, Tryz.ntmps106
    go_wp2_with fail
    go_ret
    exact ⟨rfl, Hb.out _⟩
  have e1 : (n == 1) = false := beq_eq_false_iff_ne.2 h1
  by_cases h2 : n = 2
  · rw [yes_t (by omega)]
    subst h2
    clear h1 e1
    go_enter Tryz.func106, Tryz.ntmps106
    go_wp2_with fail
    go_ret
    exact ⟨rfl, Hb.out _⟩
  have e2 : (n == 2) = false := beq_eq_false_iff_ne.2 h2
  rw [yes_f (by omega)]
  clear h1 h2
  go_enter Tryz.func106, Tryz.ntmps106
  go_wp2_with fail
  go_ret
  exact ⟨rfl, Hb.out _⟩
end Go.Proofs.YtdgedclpaplgoaaGreatDoor.taint
namespace Go.Proofs.YtdgedclpaplgoaaGreatDoor.taint
open Go.ChangeShapes Go.WideShapes Go.ChangeAt Go.RowKit ty lab
set_option linter.unusedVariables false

set_option maxRecDepth 100000 in
theorem impl_ft (x : Taint) (w : World) :
    Calls Tryz.prog 99 #[.agg #[.string x.key, .string x.value, .int .i64 x.effect]] w fun e w' => e = .returned (.agg #[.string x.key, .string x.value, .int .i64 x.effect]) ∧ Gr w w' := by
  obtain ⟨key, value, effect⟩ := x
  have Hg : Hid (∀ a b : Obj, Gr w ((w.alloc a).alloc b)) := fun a b => ((Gr.refl w).alloc a).alloc b
  go_enter Tryz.func99, Tryz.ntmps99
  go_wp2_with fail
  refine bodyPost_ret (v := .agg #[.string key, .string value, .int .i64 effect]) ?_ rfl ⟨rfl, Hg.out _ _⟩
  have hrow := heap_alloc_new (w.alloc (.cells #[.string key, .string value, .int .i64 effect] 44)) (.cells #[.string key, .string value, .int .i64 effect] 118)
  have hs : (w.alloc (.cells #[.string key, .string value, .int .i64 effect] 44)).heap.size = w.heap.size + 1 := by simp
  rw [hs] at hrow
  exact results_cell_row rfl _ _ (w.heap.size + 1) _ #[.string key, .string value, .int .i64 effect] (0, 0) _ rfl hrow Tryz.underlying118 rfl (by kernel_rfl)
set_option maxRecDepth 100000 in
theorem impl_fo (x : Tolerance) (w : World) :
    Calls Tryz.prog 103 #[.agg #[.string x.key, .bool x.equal, .string x.value, .int .i64 x.effect]] w fun e w' => e = .returned (.agg #[.string x.key, .string x.value, .int .i64 x.effect, .bool x.equal]) ∧ Gr w w' := by
  obtain ⟨key, equal, value, effect⟩ := x
  have Hg : Hid (∀ a b : Obj, Gr w ((w.alloc a).alloc b)) := fun a b => ((Gr.refl w).alloc a).alloc b
  go_enter Tryz.func103, Tryz.ntmps103
  go_wp2_with fail
  refine bodyPost_ret (v := .agg #[.string key, .string value, .int .i64 effect, .bool equal]) ?_ rfl ⟨rfl, Hg.out _ _⟩
  have hrow := heap_alloc_new (w.alloc (.cells #[.string key, .bool equal, .string value, .int .i64 effect] 46)) (.cells #[.string key, .string value, .int .i64 effect, .bool equal] 124)
  have hs : (w.alloc (.cells #[.string key, .bool equal, .string value, .int .i64 effect] 46)).heap.size = w.heap.size + 1 := by simp
  rw [hs] at hrow
  exact results_cell_row rfl _ _ (w.heap.size + 1) _ #[.string key, .string value, .int .i64 effect, .bool equal] (0, 0) _ rfl hrow Tryz.underlying124 rfl (by kernel_rfl)
theorem impl_fl (a b : Bool) (w : World) : Calls Tryz.prog 104 #[.bool a, .bool b] w fun e w' => e = .returned (.int .i64 (cmpY a b)) ∧ w = w' := by
  cases a <;> cases b <;>
  · go_enter Tryz.func104, Tryz.ntmps104
    go_wp2_with fail
    go_ret
    exact ⟨rfl, rfl⟩
end Go.Proofs.YtdgedclpaplgoaaGreatDoor.taint
namespace Go.Proofs.YtdgedclpaplgoaaGreatDoor.taint
open Go.ChangeShapes Go.WideShapes Go.ChangeAt Go.RowKit ty lab need
set_option linter.unusedVariables false

theorem taint_yes (x : Taint) : yes (TaintP x) = (yes (KeyP x.key ∧ ValP x.value) && yes (1 ≤ x.effect ∧ x.effect ≤ 2)) := by
  rw [← yes_and]
  congr 1
  exact propext ⟨fun h => ⟨⟨h.key, h.value⟩, h.lo, h.hi⟩, fun h => ⟨h.1.1, h.1.2, h.2.1, h.2.2⟩⟩
set_option maxRecDepth 100000 in
set_option maxHeartbeats 4000000 in
theorem impl_taint (x : Taint) (w : World) (hw : x.Wf) :
    Calls Tryz.prog 59 #[.agg #[.string x.key, .string x.value, .int .i64 x.effect]] w fun e w' => e = .returned (.bool (yes (TaintP x))) ∧ Below w.heap.size w w' := by
  rw [taint_yes]
  have HL := Lib.hid (fun w' => impl_lab x.key x.value x.effect w' hw.1 hw.2.1)
  have HE := Lib.hid (fun w' => impl_eff x.key x.value x.effect w')
  have HF := Lib.hid (fun w' => impl_ft x w')
  have Hb0 := Lib.hid (fun o : Obj => (Below.refl w.heap.size w).alloc (Nat.le_refl _) o)
  clear hw
  obtain ⟨k, a, n⟩ := x
  simp only at *
  generalize yes (1 ≤ n ∧ n ≤ 2) = r2 at HE ⊢
  generalize yes (KeyP k ∧ ValP a) = r1 at HL ⊢
  cases r1 with
  | false =>
    clear HE
    go_enter Tryz.func59, Tryz.ntmps59
    go_wp2_with fail
    refine (HF.out _).mono ?_
    rintro e w1 ⟨rfl, hg⟩
    have Hb1 := Lib.hid (below_link (Hb0.out _) hg.below (Hb0.out _).size)
    clear hg
    go_wp2_with fail
    refine (HL.out _).mono ?_
    rintro e w2 ⟨rfl, hb⟩
    have Hb2 := Lib.hid (below_link (Hb1.out.alloc Hb1.out.size _) hb (Hb1.out.alloc Hb1.out.size _).size)
    clear hb
    go_wp2_with fail
    go_ret
    exact ⟨rfl, Hb2.out⟩
  | true =>
    go_enter Tryz.func59, Tryz.ntmps59
    go_wp2_with fail
    refine (HF.out _).mono ?_
    rintro e w1 ⟨rfl, hg⟩
    have Hb1 := Lib.hid (below_link (Hb0.out _) hg.below (Hb0.out _).size)
    clear hg
    go_wp2_with fail
    refine (HL.out _).mono ?_
    rintro e w2 ⟨rfl, hb⟩
    have hr := (RowE.new 118 w1 [.string k, .string a, .int .i64 n]).below hb
    have c0 := hr.cell 0 _ rfl
    have c1 := hr.cell 1 _ rfl
    have c2 := hr.cell 2 _ rfl
    have Hb2 := Lib.hid (below_link (Hb1.out.alloc Hb1.out.size _) hb (Hb1.out.alloc Hb1.out.size _).size)
    clear hb hr
    go_wp2_with fail
    refine (HE.out _).mono ?_
    rintro e w3 ⟨rfl, hb⟩
    have Hb3 := Lib.hid (below_link Hb2.out hb Hb2.out.size)
    clear hb
    go_wp2_with fail
    go_ret
    exact ⟨by cases r2 <;> rfl, Hb3.out⟩
end Go.Proofs.YtdgedclpaplgoaaGreatDoor.taint
namespace Go.Proofs.YtdgedclpaplgoaaGreatDoor.taint
open Go.ChangeShapes Go.WideShapes Go.ChangeAt Go.RowKit ty lab need
set_option linter.unusedVariables false

/-- Two boxes of three cells stand. -/
def Six (w : World) (u0 u1 u2 v0 v1 v2 : Value) (w' : World) : Prop := Gr w w' ∧ w'.cell? ⟨w.heap.size, 0, none⟩ = some u0 ∧ w'.cell? ⟨w.heap.size, 1, none⟩ = some u1 ∧ w'.cell? ⟨w.heap.size, 2, none⟩ = some u2 ∧ w'.cell? ⟨w.heap.size + 1, 0, none⟩ = some v0 ∧ w'.cell? ⟨w.heap.size + 1, 1, none⟩ = some v1 ∧ w'.cell? ⟨w.heap.size + 1, 2, none⟩ = some v2
theorem Six.keep {w a b : World} {u0 u1 u2 v0 v1 v2 : Value} (h : Six w u0 u1 u2 v0 v1 v2 a) (g : Gr a b) : Six w u0 u1 u2 v0 v1 v2 b :=
  ⟨h.1.trans g, cell_gr h.2.1 g, cell_gr h.2.2.1 g, cell_gr h.2.2.2.1 g, cell_gr h.2.2.2.2.1 g, cell_gr h.2.2.2.2.2.1 g, cell_gr h.2.2.2.2.2.2 g⟩
set_option maxRecDepth 100000 in
set_option maxHeartbeats 8000000 in
theorem impl_common (k1 a1 : ByteArray) (n1 : Int) (k2 a2 : ByteArray) (n2 : Int) (w : World) :
    Calls Tryz.prog 100 #[.agg #[.string k1, .string a1, .int .i64 n1], .agg #[.string k2, .string a2, .int .i64 n2]] w fun e w' => e = .returned (.int .i64 (orI (cmpB k1 k2) (cmpB a1 a2) (arith.cmpF n1 n2))) ∧ Gr w w' := by
  obtain ⟨W, hW⟩ : ∃ W, W = (w.alloc (.cells #[.string k1, .string a1, .int .i64 n1] 116)).alloc (.cells #[.string k2, .string a2, .int .i64 n2] 116) := ⟨_, rfl⟩
  have hgr : Gr w W := by rw [hW]; exact ((Gr.refl w).alloc _).alloc _
  have hb1 : W.heap[w.heap.size]? = some (.cells #[.string k1, .string a1, .int .i64 n1] 116 (0, 0)) := by
    rw [hW, Below.heap_alloc _ _ _ (by simp)]
    exact heap_alloc_new w _
  have hb2 : W.heap[w.heap.size + 1]? = some (.cells #[.string k2, .string a2, .int .i64 n2] 116 (0, 0)) := by
    rw [hW]
    have h := heap_alloc_new (w.alloc (.cells #[.string k1, .string a1, .int .i64 n1] 116)) (.cells #[.string k2, .string a2, .int .i64 n2] 116)
    simpa using h
  have p0 : W.cell? ⟨w.heap.size, 0, none⟩ = some (.string k1) := by rw [cell_of_row _ _ _ _ _ _ hb1]; rfl
  have p1 : W.cell? ⟨w.heap.size, 1, none⟩ = some (.string a1) := by rw [cell_of_row _ _ _ _ _ _ hb1]; rfl
  have p2 : W.cell? ⟨w.heap.size, 2, none⟩ = some (.int .i64 n1) := by rw [cell_of_row _ _ _ _ _ _ hb1]; rfl
  have q0 : W.cell? ⟨w.heap.size + 1, 0, none⟩ = some (.string k2) := by rw [cell_of_row _ _ _ _ _ _ hb2]; rfl
  have q1 : W.cell? ⟨w.heap.size + 1, 1, none⟩ = some (.string a2) := by rw [cell_of_row _ _ _ _ _ _ hb2]; rfl
  have q2 : W.cell? ⟨w.heap.size + 1, 2, none⟩ = some (.int .i64 n2) := by rw [cell_of_row _ _ _ _ _ _ hb2]; rfl
  have HS := Lib.hid (fun a b w' => Tryz.strings_Compare a b w')
  have HI := Lib.hid (fun w' => arith.impl_cmp n1 n2 w')
  have hc1 : Lib.compareBytes k1.data.toList k2.data.toList = cmpB k1 k2 := rfl
  have hc2 : Lib.compareBytes a1.data.toList a2.data.toList = cmpB a1 a2 := rfl
  have HO := Lib.hid (show Calls Tryz.prog 83 #[.slice (some ⟨W.heap.size, 0, none⟩) 3 3] (W.alloc (.cells #[.int .i64 (cmpB k1 k2), .int .i64 (cmpB a1 a2), .int .i64 (arith.cmpF n1 n2)] 3)).drew fun e w' => e = .returned (.int .i64 (orI (cmpB k1 k2) (cmpB a1 a2) (arith.cmpF n1 n2))) ∧ (W.alloc (.cells #[.int .i64 (cmpB k1 k2), .int .i64 (cmpB a1 a2), .int .i64 (arith.cmpF n1 n2)] 3)).drew = w' by
    rw [← orL_three]
    exact impl_or [cmpB k1 k2, cmpB a1 a2, arith.cmpF n1 n2] (some ⟨W.heap.size, 0, none⟩) 3 _ (by simp) ((rd_three W _ _ _ _).drewN 1))
  rw [← hc1, ← hc2] at HO ⊢
  generalize arith.cmpF n1 n2 = b at HI HO ⊢
  have Hgr := Lib.hid hgr
  have HW := Lib.hid hW
  clear hgr hb1 hb2 hc1 hc2
  go_enter Tryz.func100, Tryz.ntmps100
  go_wp2_with fail
  rw [← hW]
  clear hW
  have h6 : Six w (.string k1) (.string a1) (.int .i64 n1) (.string k2) (.string a2) (.int .i64 n2) W := ⟨Hgr.out, p0, p1, p2, q0, q1, q2⟩
  clear p0 p1 p2 q0 q1 q2 HW
  have H6 := Lib.hid h6
  clear h6
  go_region_held3 (fun w' => Gr w w' ∧ w'.cell? ⟨w.heap.size, 0, none⟩ = some (.string k1) ∧ w'.cell? ⟨w.heap.size, 1, none⟩ = some (.string a1) ∧ w'.cell? ⟨w.heap.size, 2, none⟩ = some (.int .i64 n1) ∧ w'.cell? ⟨w.heap.size + 1, 0, none⟩ = some (.string k2) ∧ w'.cell? ⟨w.heap.size + 1, 1, none⟩ = some (.string a2) ∧ w'.cell? ⟨w.heap.size + 1, 2, none⟩ = some (.int .i64 n2)) (first | assumption | exact H6.out.keep (Gr.refl _).drew | exact Six.keep (by assumption) ((Gr.refl _).alloc _) | exact Six.keep (by assumption) (by assumption)) (first | (go_at_call 37; refine (HS.out _ _ _).mono ?_; rintro e w1 ⟨rfl, rfl⟩) | (go_at_call 84; refine (HI.out _).mono ?_; rintro e w1 ⟨rfl, rfl⟩) | (go_at_call 83; refine HO.out.mono ?_; rintro e w1 ⟨rfl, rfl⟩))
  all_goals
    go_wp2_with fail
    go_ret
    exact ⟨rfl, (Hgr.out.alloc _).drew⟩
end Go.Proofs.YtdgedclpaplgoaaGreatDoor.taint
namespace Go.Proofs.YtdgedclpaplgoaaGreatDoor.taint
open Go.ChangeShapes Go.WideShapes Go.ChangeAt Go.RowKit ty lab need
set_option linter.unusedVariables false

/-- The embedded struct, taken out of a struct. -/
theorem emb_taint (a b : ByteArray) (n : Int) (w : World) : Sem.run Tryz.prog (Instr.field 118 (.agg #[.string a, .string b, .int .i64 n]) 0) w = .ok (.agg #[.string a, .string b, .int .i64 n]) w := by kernel_rfl
set_option maxRecDepth 100000 in
set_option maxHeartbeats 8000000 in
theorem impl_cmpT (x y : Taint) (w : World) :
    Calls Tryz.prog 53 #[.agg #[.string x.key, .string x.value, .int .i64 x.effect], .agg #[.string y.key, .string y.value, .int .i64 y.effect]] w fun e w' => e = .returned (.int .i64 (cmpT x y)) ∧ Gr w w' := by
  unfold cmpT
  obtain ⟨k1, a1, n1⟩ := x
  obtain ⟨k2, a2, n2⟩ := y
  simp only
  obtain ⟨X, hX⟩ : ∃ X, X = (w.alloc (.cells #[.string k1, .string a1, .int .i64 n1] 44)).alloc (.cells #[.string k2, .string a2, .int .i64 n2] 44) := ⟨_, rfl⟩
  have HB : Box2 44 w [.string k1, .string a1, .int .i64 n1] [.string k2, .string a2, .int .i64 n2] X := by rw [hX]; exact Box2.new _ _ _ _
  have hgr : Gr w X := by rw [hX]; exact ((Gr.refl w).alloc _).alloc _
  have hs : w.heap.size + 1 < X.heap.size := by rw [hX]; simp
  have p0 : ∀ p : GrBy X, p.v.cell? ⟨w.heap.size, 0, none⟩ = some (.string k1) := fun p => p.cell (by simp; omega) (HB.cell1 (j := 0) rfl)
  have p1 : ∀ p : GrBy X, p.v.cell? ⟨w.heap.size, 1, none⟩ = some (.string a1) := fun p => p.cell (by simp; omega) (HB.cell1 (j := 1) rfl)
  have p2 : ∀ p : GrBy X, p.v.cell? ⟨w.heap.size, 2, none⟩ = some (.int .i64 n1) := fun p => p.cell (by simp; omega) (HB.cell1 (j := 2) rfl)
  have q0 : ∀ p : GrBy X, p.v.cell? ⟨w.heap.size + 1, 0, none⟩ = some (.string k2) := fun p => p.cell (by simp; omega) (HB.cell2 (j := 0) rfl)
  have q1 : ∀ p : GrBy X, p.v.cell? ⟨w.heap.size + 1, 1, none⟩ = some (.string a2) := fun p => p.cell (by simp; omega) (HB.cell2 (j := 1) rfl)
  have q2 : ∀ p : GrBy X, p.v.cell? ⟨w.heap.size + 1, 2, none⟩ = some (.int .i64 n2) := fun p => p.cell (by simp; omega) (HB.cell2 (j := 2) rfl)
  have HF := Lib.hid (fun (a b : ByteArray) (n : Int) w' => impl_ft ⟨a, b, n⟩ w')
  simp only at HF
  have HC := Lib.hid (fun w' => impl_common k1 a1 n1 k2 a2 n2 w')
  have F0 := emb_taint
  have Hgr := Lib.hid hgr
  have HX := Lib.hid hX
  clear HB hgr hs hX
  generalize orI (cmpB k1 k2) (cmpB a1 a2) (arith.cmpF n1 n2) = r at HC ⊢
  go_enter Tryz.func53, Tryz.ntmps53
  go_wp2_with fail
  rw [← HX.out]
  refine wp_region_quiet_gr (by kernel_rfl) (by kernel_rfl) ?_
  repeat (refine @wpQuiet_step _ _ _ _ _ _ _ ?_; intro K hK; go_simp; first | (refine hK _ ?_; clear hK K) | (apply Exists.intro; refine ⟨fun _ => ?_, hK _ ?_⟩; (first | (go_at_call 99; exact Calls.gr_of (HF.out _ _ _ _)) | (go_at_call 100; exact Calls.gr_of (HC.out _))); clear hK K))
  refine wpQuiet_nil ?_
  intro _ hw'
  obtain ⟨p, rfl⟩ := hw'
  go_wp2_with fail
  go_ret
  exact ⟨rfl, Hgr.out.trans p.h⟩
end Go.Proofs.YtdgedclpaplgoaaGreatDoor.taint
namespace Go.Proofs.YtdgedclpaplgoaaGreatDoor.taint
open Go.ChangeShapes Go.WideShapes Go.ChangeAt Go.RowKit ty lab dedup need
set_option linter.unusedVariables false

set_option maxRecDepth 100000 in
set_option maxHeartbeats 16000000 in
theorem impl_ascTaint (l : List Taint) (f : Nat) (v : Value) (w : World) (h : Lies w f v (.sl 3 l.length (l.flatMap Taint.row))) :
    Calls Tryz.prog 58 #[v, .func (.func 59) #[] #[], .func (.func 53) #[] #[]] w fun e w' => e = .returned (.bool (yes (GoodL TaintP lessT l l.length))) ∧ Below w.heap.size w w' := by
  obtain ⟨A, c, rfl, hc1, hc2, f', rfl, hk⟩ := els_of Taint.row_length h
  unfold maxLen at hc2
  obtain ⟨R, hR⟩ : ∃ R, yes (GoodL TaintP lessT l l.length) = R := ⟨_, rfl⟩
  rw [hR]
  have Hno : Hid (¬ GoodL TaintP lessT l l.length → R = false) := fun h => by rw [← hR]; exact yes_f h
  have Hyes : Hid (GoodL TaintP lessT l l.length → R = true) := fun h => by rw [← hR]; exact yes_t h
  have Hk := Lib.hid hk
  clear h hk hR
  go_enter Tryz.func58, Tryz.ntmps58
  go_wp2_with fail
  go_loopw [11] (fun i wr => ∃ j : Nat, j ≤ l.length ∧ i = .int .i64 j ∧ Hid (GoodL TaintP lessT l j) ∧ Below w.heap.size w wr) (fun i _ => l.length - (intOf i).toNat)
  case atStart => exact ⟨0, Nat.zero_le _, rfl, fun i hi hj => by omega, Below.refl _ _⟩
  case round =>
    obtain ⟨j, hj, rfl, hgood, hbel⟩ := hrel
    have Hbel := Lib.hid hbel
    by_cases hlt : j < l.length
    · obtain ⟨g, o, rfl, hg, us, hus, hc, hls⟩ := (Hk.out.below hbel).get hlt
      obtain ⟨rfl, hwf⟩ := Taint.opened hls
      have q0 : wr.cell? ⟨g, o + j * 3, none⟩ = some (.string l[j].key) := hc 0 _ rfl
      have q1 : wr.cell? ⟨g, o + j * 3 + 1, none⟩ = some (.string l[j].value) := hc 1 _ rfl
      have q2 : wr.cell? ⟨g, o + j * 3 + 2, none⟩ = some (.int .i64 l[j].effect) := hc 2 _ rfl
      obtain ⟨X, hX⟩ : ∃ X, X = wr.alloc (.cells #[.string l[j].key, .string l[j].value, .int .i64 l[j].effect] 44) := ⟨_, rfl⟩
      have HB := Lib.hid (Box.new 44 wr [.string l[j].key, .string l[j].value, .int .i64 l[j].effect])
      have hbX : Below wr.heap.size wr X := by rw [hX]; exact HB.out.1
      have HN := Lib.hid (fun p : BelowBy X => impl_taint l[j] p.v hwf)
      have HW2 : Hid (∀ p : BelowBy X, Below w.heap.size w p.v) := fun p => below_link hbel (hbX.trans (p.h.mono hbX.size)) hbel.size
      have B0 : ∀ p : BelowBy X, p.v.cell? ⟨wr.heap.size, 0, none⟩ = some (.string l[j].key) := fun p => p.cell (by rw [hX]; simp) (by rw [hX]; exact HB.out.cell (j := 0) rfl)
      have B1 : ∀ p : BelowBy X, p.v.cell? ⟨wr.heap.size, 1, none⟩ = some (.string l[j].value) := fun p => p.cell (by rw [hX]; simp) (by rw [hX]; exact HB.out.cell (j := 1) rfl)
      have B2 : ∀ p : BelowBy X, p.v.cell? ⟨wr.heap.size, 2, none⟩ = some (.int .i64 l[j].effect) := fun p => p.cell (by rw [hX]; simp) (by rw [hX]; exact HB.out.cell (j := 2) rfl)
      have HX := Lib.hid hX
      have hj0 : (0 : Int) ≤ (j : Int) := by omega
      have hjn : (j : Int) < (l.length : Int) := by omega
      by_cases hP : TaintP l[j]
      case neg =>
        have Hf := Lib.hid (Hno.out fun h2 => hP (h2 j hlt hlt).1)
        rw [yes_f hP] at HN
        clear hP Hno Hyes hgood hls hus hc hg hwf Hk hbel hbX hX HB
        generalize l[j] = x at *
        go_wp2_with fail
        rw [← HX.out]
        refine wp_region_quiet_below (by kernel_rfl) (by kernel_rfl) ?_
        repeat (refine @wpQuiet_step _ _ _ _ _ _ _ ?_; intro K hK; go_simp; first | (refine hK _ ?_; clear hK K) | (apply Exists.intro; refine ⟨fun _ => ?_, hK _ ?_⟩; (first | (go_at_call 59; exact Calls.below_of (HN.out _))); clear hK K))
        refine wpQuiet_nil ?_
        intro _ hw'
        obtain ⟨p, rfl⟩ := hw'
        go_wp2_with fail
        go_ret
        exact ⟨by rw [Hf.out]; rfl, HW2.out p⟩
      rw [yes_t hP] at HN
      by_cases hz : j = 0
      · have Hg := Lib.hid (goodL_next hgood.out hlt hP (fun m hm => by omega))
        have hn0 : ¬ (0 : Int) < (j : Int) := by omega
        have hn1 : ¬ 0 < j := by omega
        clear hP Hno Hyes hgood hls hus hc hg hwf Hk hz hbel hbX hX HB
        generalize l[j] = x at *
        go_wp2_with fail
        rw [← HX.out]
        refine wp_region_quiet_below (by kernel_rfl) (by kernel_rfl) ?_
        repeat (refine @wpQuiet_step _ _ _ _ _ _ _ ?_; intro K hK; go_simp; first | (refine hK _ ?_; clear hK K) | (apply Exists.intro; refine ⟨fun _ => ?_, hK _ ?_⟩; (first | (go_at_call 59; exact Calls.below_of (HN.out _))); clear hK K))
        refine wpQuiet_nil ?_
        intro _ hw'
        obtain ⟨p, rfl⟩ := hw'
        go_wp2_with fail
        go_roundw
        case rel => exact ⟨j + 1, by omega, by go_num, Hg.out, HW2.out p⟩
        case measure => simp [intOf]; omega
      obtain ⟨m, hm⟩ : ∃ m, m + 1 = j := ⟨j - 1, by omega⟩
      have hml : m < l.length := by omega
      obtain ⟨g', o', hA3, hg2, us2, hus2, hc2', hls2⟩ := (Hk.out.below hbel).get hml
      injection hA3 with hA3
      injection hA3 with e1 e2
      subst e1 e2
      obtain ⟨rfl, _⟩ := Taint.opened hls2
      have HC := Lib.hid (fun p : BelowBy X => gr_below (impl_cmpT l[m] l[j] p.v))
      have R0 : ∀ p : BelowBy X, p.v.cell? ⟨g, o + m * 3, none⟩ = some (.string l[m].key) := fun p => (World.cell?_of_block ((hbX.trans (p.h.mono hbX.size)).block g hg)).trans (hc2' 0 _ rfl)
      have R1 : ∀ p : BelowBy X, p.v.cell? ⟨g, o + m * 3 + 1, none⟩ = some (.string l[m].value) := fun p => (World.cell?_of_block ((hbX.trans (p.h.mono hbX.size)).block g hg)).trans (hc2' 1 _ rfl)
      have R2 : ∀ p : BelowBy X, p.v.cell? ⟨g, o + m * 3 + 2, none⟩ = some (.int .i64 l[m].effect) := fun p => (World.cell?_of_block ((hbX.trans (p.h.mono hbX.size)).block g hg)).trans (hc2' 2 _ rfl)
      have hmi : (j : Int) - 1 = (m : Int) := by omega
      have hwm : IntKind.i64.wrap (m : Int) = (m : Int) := IntWalk.i64_in _ (by omega)
      have hm0 : (0 : Int) ≤ (m : Int) := by omega
      have hm1 : (m : Int) < (l.length : Int) := by omega
      have hjp : (0 : Int) < (j : Int) := by omega
      have hjp1 : 0 < j := by omega
      have hb := CmpWay.less wayT ordT l[m] l[j]
      by_cases hr : cmpT l[m] l[j] < 0
      · rw [decide_eq_true hr] at hb
        have Hg := Lib.hid (goodL_next hgood.out hlt hP (fun m' hm' => by obtain rfl : m' = m := by omega
                                                                          exact hb.symm))
        have hr0 : ¬ (0 : Int) ≤ cmpT l[m] l[j] := by omega
        clear hP Hno Hyes hgood hls hus hc hg hwf hls2 hus2 hc2' hg2 Hk hz hm hb hbel hbX hX HB
        generalize cmpT l[m] l[j] = r at HC hr0 hr
        generalize l[j] = x at *
        generalize l[m] = y at *
        go_wp2_with fail
        rw [← HX.out]
        refine wp_region_quiet_below (by kernel_rfl) (by kernel_rfl) ?_
        repeat (refine @wpQuiet_step _ _ _ _ _ _ _ ?_; intro K hK; go_simp; first | (refine hK _ ?_; clear hK K) | (apply Exists.intro; refine ⟨fun _ => ?_, hK _ ?_⟩; (first | (go_at_call 59; exact Calls.below_of (HN.out _)) | (go_at_call 53; exact Calls.below_of (HC.out _))); clear hK K))
        refine wpQuiet_nil ?_
        intro _ hw'
        obtain ⟨p, rfl⟩ := hw'
        go_wp2_with fail
        go_roundw
        case rel => exact ⟨j + 1, by omega, by go_num, Hg.out, HW2.out p⟩
        case measure => simp [intOf]; omega
      · rw [decide_eq_false hr] at hb
        have Hf := Lib.hid (Hno.out fun h2 => by
          have := (h2 j hlt hlt).2 m hm
          rw [← hb] at this; cases this)
        have hr0 : (0 : Int) ≤ cmpT l[m] l[j] := by omega
        clear hP Hno Hyes hgood hls hus hc hg hwf hls2 hus2 hc2' hg2 Hk hz hm hb hbel hbX hX HB
        generalize cmpT l[m] l[j] = r at HC hr0 hr
        generalize l[j] = x at *
        generalize l[m] = y at *
        go_wp2_with fail
        rw [← HX.out]
        refine wp_region_quiet_below (by kernel_rfl) (by kernel_rfl) ?_
        repeat (refine @wpQuiet_step _ _ _ _ _ _ _ ?_; intro K hK; go_simp; first | (refine hK _ ?_; clear hK K) | (apply Exists.intro; refine ⟨fun _ => ?_, hK _ ?_⟩; (first | (go_at_call 59; exact Calls.below_of (HN.out _)) | (go_at_call 53; exact Calls.below_of (HC.out _))); clear hK K))
        refine wpQuiet_nil ?_
        intro _ hw'
        obtain ⟨p, rfl⟩ := hw'
        go_wp2_with fail
        go_ret
        exact ⟨by rw [Hf.out]; rfl, HW2.out p⟩
    · obtain rfl : j = l.length := by omega
      have Hf := Lib.hid (Hyes.out hgood.out)
      clear hgood hbel
      go_wp2_with fail
      go_ret
      exact ⟨by rw [Hf.out]; rfl, Hbel.out⟩
end Go.Proofs.YtdgedclpaplgoaaGreatDoor.taint
namespace Go.Proofs.YtdgedclpaplgoaaGreatDoor.taint
open Go.ChangeShapes Go.WideShapes Go.ChangeAt Go.RowKit ty lab dedup need
set_option linter.unusedVariables false

set_option maxRecDepth 100000 in
set_option maxHeartbeats 4000000 in
theorem impl_oksTaint (l : List Taint) (f : Nat) (v : Value) (w : World) (h : Lies w f v (.sl 3 l.length (l.flatMap Taint.row))) :
    Calls Tryz.prog 21 #[v] w fun e w' => e = .returned (.bool (yes (TaintsP l))) ∧ Below w.heap.size w w' := by
  have HA := Lib.hid (impl_ascTaint l f v w h)
  obtain ⟨A, c, rfl, hc1, hc2, _⟩ := els_of Taint.row_length h
  unfold maxLen at hc2
  by_cases h4 : 4 < l.length
  · have Hf := Lib.hid (yes_f (p := TaintsP l) (fun h => by have := h.1; omega))
    clear h HA
    go_enter Tryz.func21, Tryz.ntmps21
    go_wp2_with fail
    go_ret
    exact ⟨by rw [Hf.out]; rfl, Below.refl _ _⟩
  have He : Hid (yes (TaintsP l) = yes (GoodL TaintP lessT l l.length)) := by
    unfold Hid
    congr 1
    exact propext ⟨fun h => h.2, fun h => ⟨by omega, h⟩⟩
  rw [He.out]
  clear He h
  generalize yes (GoodL TaintP lessT l l.length) = R at HA ⊢
  go_enter Tryz.func21, Tryz.ntmps21
  go_wp2_with fail
  refine HA.out.mono ?_
  rintro e w1 ⟨rfl, hb⟩
  go_wp2_with fail
  go_ret
  exact ⟨rfl, hb⟩
end Go.Proofs.YtdgedclpaplgoaaGreatDoor.taint
namespace Go.Proofs.YtdgedclpaplgoaaGreatDoor
open Go Go.RowKit Go.Sort
set_option linter.unusedVariables false
section
variable {α : Type} {c : α → α → Int} {lt : α → α → Bool}
theorem CmpWay.ltc (h : CmpWay c lt) (o : dedup.Ord lt) (a b : α) : ltOf c a b = lt a b := by
  unfold ltOf
  exact h.less o a b
theorem CmpWay.swo (h : CmpWay c lt) (o : dedup.Ord lt) : Sort.SWO (ltOf c) where
  irrefl x := by rw [h.ltc o]; exact o.irr _
  trans x y z h1 h2 := by rw [h.ltc o] at *; exact o.tr _ _ _ h1 h2
  ntrans x y z h1 h2 := by rw [h.ltc o] at *; exact ord_nt o _ _ _ h1 h2
end
end Go.Proofs.YtdgedclpaplgoaaGreatDoor
namespace Go.Proofs.YtdgedclpaplgoaaGreatDoor.taint
open Go.ChangeShapes Go.WideShapes Go.ChangeAt Go.RowKit ty
set_option linter.unusedVariables false

set_option maxRecDepth 100000 in
theorem impl_cofTaint (l : List Taint) (f : Nat) (v : Value) (w : World) (h : Lies w f v (.sl 3 l.length (l.flatMap Taint.row))) (hn : l.length ≤ 1048576) :
    Calls Tryz.prog 98 #[v] w fun e w' => ∃ g c, e = .returned (.slice (some ⟨g, 0, none⟩) l.length c) ∧ w'.ownsRow w.heap.size 44 3 (.slice (some ⟨g, 0, none⟩) l.length c) l.length (l.flatMap Taint.cells) ∧ Below w.heap.size w w' := by
  obtain ⟨A, c, rfl, hc1, hc2, f', rfl, hk⟩ := els_of Taint.row_length h
  unfold maxLen at hc2
  have Hr := Lib.hid (rdk_Taint hk).1
  clear h hk
  obtain ⟨i0, hi, hz0, hz1, hz2⟩ := info_parts TryzinfITaint
  have Hlit : Hid ((w.alloc (.cells #[] 44)).ownsRow w.heap.size 44 3 (.slice (some ⟨w.heap.size, 0, none⟩) 0 0) 0 []) :=
    World.ownsRow_lit w #[] 0 (Nat.le_refl _) (by simp [maxLen]) rfl
  have Hb := Lib.hid (fun o => (Below.refl w.heap.size w).alloc (Nat.le_refl _) o)
  have hn2 := Lib.hid hn
  clear hn
  go_enter Tryz.func98, Tryz.ntmps98
  go_wp2_with (first | (at_builtin; refine wpList_append_rdk rfl (.tmp 3) (.tmp 4) 35 rfl w.heap.size 44 i0 _ 3 40 Tryz.underlying35 hi hz0 hz1 hz2 rfl (by decide) _ 0 [] rfl Hlit.out A l.length c (l.flatMap Taint.cells) rfl (Hr.out.below (Hb.out _)) (flt.ones_flat Taint.cells_one l) (by have := hn2.out; unfold maxLen; omega) (by have := hn2.out; omega) (by simp) ?_; intro v1 w1 o1 o2 o3) | fail)
  try rw [Nat.zero_add, List.nil_append] at o1
  have hbel : Below w.heap.size w w1 := (Hb.out _).grown o2 (by simp) (fun q hq => (Hlit.out.lt q hq).1)
  obtain ⟨x, hx⟩ : ∃ x, v1.ownBlock = some x := by
    rcases o3 with e | e
    · exact ⟨_, e.trans rfl⟩
    · exact ⟨_, e⟩
  obtain ⟨c1, rfl, _⟩ := own_some o1 hx
  have O := Lib.hid (show ∃ g c, Ending.returned (.slice (some ⟨x, 0, none⟩) l.length c1) = .returned (.slice (some ⟨g, 0, none⟩) l.length c) ∧ w1.ownsRow w.heap.size 44 3 (.slice (some ⟨g, 0, none⟩) l.length c) l.length (l.flatMap Taint.cells) ∧ Below w.heap.size w w1 from ⟨x, c1, rfl, o1, hbel⟩)
  clear o1 o2 o3 hx hbel Hlit Hb Hr
  go_wp2_with fail
  go_ret
  exact O.out
end Go.Proofs.YtdgedclpaplgoaaGreatDoor.taint
