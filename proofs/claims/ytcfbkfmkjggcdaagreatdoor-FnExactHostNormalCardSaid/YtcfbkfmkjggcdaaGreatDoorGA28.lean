/- Merged: HostI CofTaintI OpTaintS TrHost OpHost. -/
import Derived.Test.YtcfbkfmkjggcdaaGreatDoorGA5
import Derived.Test.YtcfbkfmkjggcdaaGreatDoorGA2
import Derived.Test.YtcfbkfmkjggcdaaGreatDoorGA8
import Derived.Test.YtcfbkfmkjggcdaaGreatDoorGA27
import Derived.Test.YtcfbkfmkjggcdaaGreatDoorGA6
import Derived.Laws.Cover1
import Derived.Test.YtcfbkfmkjggcdaaGreatDoorGA26
import Derived.Test.YtcfbkfmkjggcdaaGreatDoorGA25
import Derived.Test.YtcfbkfmkjggcdaaGreatDoorGA9
import Derived.Test.YtcfbkfmkjggcdaaGreatDoorGA4
namespace Go.Proofs.YtcfbkfmkjggcdaaGreatDoor.pod
open Go.ChangeShapes Go.WideShapes Go.ChangeAt Go.RowKit ty lab need taint
set_option linter.unusedVariables false
set_option maxRecDepth 100000 in
set_option maxHeartbeats 32000000 in
theorem impl_host (x : Host) (f : Nat) (us : List Value) (w : World) (h : LiesS w f us x.row) (hz : x.wt ≤ 1048576) :
    Calls Tryz.prog 40 #[.agg us.toArray] w fun e w' => e = .returned (.bool (yes (HostP x))) ∧ Below w.heap.size w w' := by
  obtain ⟨R, hR⟩ : ∃ R, yes (HostP x) = R := ⟨_, rfl⟩
  rw [hR]
  have Hno : Hid (¬ HostP x → R = false) := fun h => by rw [← hR]; exact yes_f h
  have Hyes : Hid (HostP x → R = true) := fun h => by rw [← hR]; exact yes_t h
  clear hR
  obtain ⟨a0, a1, a2, a3, a4, a5⟩ := x
  obtain ⟨A1, c1, A5, c5, rfl, hwf, k1, m1, l1, k5, m5, l5⟩ := Host.opened h
  unfold Host.wt at hz
  simp only at hz hwf k1 m1 l1 k5 m5 l5
  obtain ⟨w1, hw1⟩ : ∃ w1, w1 = w.alloc (.cells #[.string a0, .slice A1 a1.length c1, .int .i64 a2, .int .i64 a3, .int .i64 a4, .slice A5 a5.length c5] 32) := ⟨_, rfl⟩
  have hb1 : Below w.heap.size w w1 := by rw [hw1]; exact (Below.refl _ _).alloc (Nat.le_refl _) _
  have R1 := Lib.hid (show RowE 32 w1 w.heap.size [.string a0, .slice A1 a1.length c1, .int .i64 a2, .int .i64 a3, .int .i64 a4, .slice A5 a5.length c5] by rw [hw1]; exact RowE.new _ _ _)
  have Hw1 := Lib.hid hw1
  have C0 := Lib.hid (fun w' (hb : Below w.heap.size w w') => impl_name a0 w' (by omega))
  have C1 := Lib.hid (fun w' (hb : Below w.heap.size w w') => impl_labels a1 f _ w' (l1.below hb) (small_of (by omega)))
  have C2 := Lib.hid (fun w' (hb : Below w.heap.size w w') => impl_oksTaint a5 f _ w' (l5.below hb))
  have HB1 := Lib.hid hb1
  clear h hz hwf hb1 hw1 k1 m1 l1 k5 m5 l5
  by_cases h0 : NameP a0
  case neg =>
    have Hf := Lib.hid (Hno.out fun h => h0 h.name)
    clear Hno Hyes
    rw [yes_f h0] at C0
    clear h0
    go_enter Tryz.func40, Tryz.ntmps40
    go_wp2_with fail
    rw [← Hw1.out]
    refine (C0.out _ HB1.out).mono ?_
    rintro e y0 ⟨rfl, b0⟩
    have HB10 := Lib.hid (below_link HB1.out b0 HB1.out.size)
    have R10 := Lib.hid (R1.out.below b0)
    clear b0
    have p0_0 := R10.out.cell 0 _ rfl
    have p1_0 := R10.out.cell 1 _ rfl
    have p2_0 := R10.out.cell 2 _ rfl
    have p3_0 := R10.out.cell 3 _ rfl
    have p4_0 := R10.out.cell 4 _ rfl
    have p5_0 := R10.out.cell 5 _ rfl
    go_wp2_with fail
    go_ret
    exact ⟨by rw [Hf.out]; rfl, HB10.out⟩
  rw [yes_t h0] at C0
  by_cases h1 : LabelsP a1
  case neg =>
    have Hf := Lib.hid (Hno.out fun h => h1 h.labels)
    clear Hno Hyes
    rw [yes_f h1] at C1
    clear h0 h1
    go_enter Tryz.func40, Tryz.ntmps40
    go_wp2_with fail
    rw [← Hw1.out]
    refine (C0.out _ HB1.out).mono ?_
    rintro e y0 ⟨rfl, b0⟩
    have HB10 := Lib.hid (below_link HB1.out b0 HB1.out.size)
    have R10 := Lib.hid (R1.out.below b0)
    clear b0
    have p0_0 := R10.out.cell 0 _ rfl
    have p1_0 := R10.out.cell 1 _ rfl
    have p2_0 := R10.out.cell 2 _ rfl
    have p3_0 := R10.out.cell 3 _ rfl
    have p4_0 := R10.out.cell 4 _ rfl
    have p5_0 := R10.out.cell 5 _ rfl
    go_wp2_with fail
    refine (C1.out _ HB10.out).mono ?_
    rintro e y1 ⟨rfl, b1⟩
    have HB11 := Lib.hid (below_link HB10.out b1 HB10.out.size)
    have R11 := Lib.hid (R10.out.below b1)
    clear p0_0 p1_0 p2_0 p3_0 p4_0 p5_0
    clear b1
    have p0_1 := R11.out.cell 0 _ rfl
    have p1_1 := R11.out.cell 1 _ rfl
    have p2_1 := R11.out.cell 2 _ rfl
    have p3_1 := R11.out.cell 3 _ rfl
    have p4_1 := R11.out.cell 4 _ rfl
    have p5_1 := R11.out.cell 5 _ rfl
    go_wp2_with fail
    go_ret
    exact ⟨by rw [Hf.out]; rfl, HB11.out⟩
  rw [yes_t h1] at C1
  by_cases h2 : TaintsP a5
  case neg =>
    have Hf := Lib.hid (Hno.out fun h => h2 h.taints)
    clear Hno Hyes
    rw [yes_f h2] at C2
    clear h0 h1 h2
    go_enter Tryz.func40, Tryz.ntmps40
    go_wp2_with fail
    rw [← Hw1.out]
    refine (C0.out _ HB1.out).mono ?_
    rintro e y0 ⟨rfl, b0⟩
    have HB10 := Lib.hid (below_link HB1.out b0 HB1.out.size)
    have R10 := Lib.hid (R1.out.below b0)
    clear b0
    have p0_0 := R10.out.cell 0 _ rfl
    have p1_0 := R10.out.cell 1 _ rfl
    have p2_0 := R10.out.cell 2 _ rfl
    have p3_0 := R10.out.cell 3 _ rfl
    have p4_0 := R10.out.cell 4 _ rfl
    have p5_0 := R10.out.cell 5 _ rfl
    go_wp2_with fail
    refine (C1.out _ HB10.out).mono ?_
    rintro e y1 ⟨rfl, b1⟩
    have HB11 := Lib.hid (below_link HB10.out b1 HB10.out.size)
    have R11 := Lib.hid (R10.out.below b1)
    clear p0_0 p1_0 p2_0 p3_0 p4_0 p5_0
    clear b1
    have p0_1 := R11.out.cell 0 _ rfl
    have p1_1 := R11.out.cell 1 _ rfl
    have p2_1 := R11.out.cell 2 _ rfl
    have p3_1 := R11.out.cell 3 _ rfl
    have p4_1 := R11.out.cell 4 _ rfl
    have p5_1 := R11.out.cell 5 _ rfl
    go_wp2_with fail
    refine (C2.out _ HB11.out).mono ?_
    rintro e y2 ⟨rfl, b2⟩
    have HB12 := Lib.hid (below_link HB11.out b2 HB11.out.size)
    have R12 := Lib.hid (R11.out.below b2)
    clear p0_1 p1_1 p2_1 p3_1 p4_1 p5_1
    clear b2
    have p0_2 := R12.out.cell 0 _ rfl
    have p1_2 := R12.out.cell 1 _ rfl
    have p2_2 := R12.out.cell 2 _ rfl
    have p3_2 := R12.out.cell 3 _ rfl
    have p4_2 := R12.out.cell 4 _ rfl
    have p5_2 := R12.out.cell 5 _ rfl
    go_wp2_with fail
    go_ret
    exact ⟨by rw [Hf.out]; rfl, HB12.out⟩
  rw [yes_t h2] at C2
  by_cases h3 : 0 ≤ a2
  case neg =>
    have Hf := Lib.hid (Hno.out fun h => h3 h.cpu)
    clear Hno Hyes
    have g3 := decide_eq_false h3
    clear h0 h1 h2
    go_enter Tryz.func40, Tryz.ntmps40
    go_wp2_with fail
    rw [← Hw1.out]
    refine (C0.out _ HB1.out).mono ?_
    rintro e y0 ⟨rfl, b0⟩
    have HB10 := Lib.hid (below_link HB1.out b0 HB1.out.size)
    have R10 := Lib.hid (R1.out.below b0)
    clear b0
    have p0_0 := R10.out.cell 0 _ rfl
    have p1_0 := R10.out.cell 1 _ rfl
    have p2_0 := R10.out.cell 2 _ rfl
    have p3_0 := R10.out.cell 3 _ rfl
    have p4_0 := R10.out.cell 4 _ rfl
    have p5_0 := R10.out.cell 5 _ rfl
    go_wp2_with fail
    refine (C1.out _ HB10.out).mono ?_
    rintro e y1 ⟨rfl, b1⟩
    have HB11 := Lib.hid (below_link HB10.out b1 HB10.out.size)
    have R11 := Lib.hid (R10.out.below b1)
    clear p0_0 p1_0 p2_0 p3_0 p4_0 p5_0
    clear b1
    have p0_1 := R11.out.cell 0 _ rfl
    have p1_1 := R11.out.cell 1 _ rfl
    have p2_1 := R11.out.cell 2 _ rfl
    have p3_1 := R11.out.cell 3 _ rfl
    have p4_1 := R11.out.cell 4 _ rfl
    have p5_1 := R11.out.cell 5 _ rfl
    go_wp2_with fail
    refine (C2.out _ HB11.out).mono ?_
    rintro e y2 ⟨rfl, b2⟩
    have HB12 := Lib.hid (below_link HB11.out b2 HB11.out.size)
    have R12 := Lib.hid (R11.out.below b2)
    clear p0_1 p1_1 p2_1 p3_1 p4_1 p5_1
    clear b2
    have p0_2 := R12.out.cell 0 _ rfl
    have p1_2 := R12.out.cell 1 _ rfl
    have p2_2 := R12.out.cell 2 _ rfl
    have p3_2 := R12.out.cell 3 _ rfl
    have p4_2 := R12.out.cell 4 _ rfl
    have p5_2 := R12.out.cell 5 _ rfl
    go_wp2_with fail
    go_ret
    exact ⟨by rw [Hf.out]; rfl, HB12.out⟩
  have g3 := decide_eq_true h3
  by_cases h4 : 0 ≤ a3
  case neg =>
    have Hf := Lib.hid (Hno.out fun h => h4 h.mem)
    clear Hno Hyes
    have g4 := decide_eq_false h4
    clear h0 h1 h2
    go_enter Tryz.func40, Tryz.ntmps40
    go_wp2_with fail
    rw [← Hw1.out]
    refine (C0.out _ HB1.out).mono ?_
    rintro e y0 ⟨rfl, b0⟩
    have HB10 := Lib.hid (below_link HB1.out b0 HB1.out.size)
    have R10 := Lib.hid (R1.out.below b0)
    clear b0
    have p0_0 := R10.out.cell 0 _ rfl
    have p1_0 := R10.out.cell 1 _ rfl
    have p2_0 := R10.out.cell 2 _ rfl
    have p3_0 := R10.out.cell 3 _ rfl
    have p4_0 := R10.out.cell 4 _ rfl
    have p5_0 := R10.out.cell 5 _ rfl
    go_wp2_with fail
    refine (C1.out _ HB10.out).mono ?_
    rintro e y1 ⟨rfl, b1⟩
    have HB11 := Lib.hid (below_link HB10.out b1 HB10.out.size)
    have R11 := Lib.hid (R10.out.below b1)
    clear p0_0 p1_0 p2_0 p3_0 p4_0 p5_0
    clear b1
    have p0_1 := R11.out.cell 0 _ rfl
    have p1_1 := R11.out.cell 1 _ rfl
    have p2_1 := R11.out.cell 2 _ rfl
    have p3_1 := R11.out.cell 3 _ rfl
    have p4_1 := R11.out.cell 4 _ rfl
    have p5_1 := R11.out.cell 5 _ rfl
    go_wp2_with fail
    refine (C2.out _ HB11.out).mono ?_
    rintro e y2 ⟨rfl, b2⟩
    have HB12 := Lib.hid (below_link HB11.out b2 HB11.out.size)
    have R12 := Lib.hid (R11.out.below b2)
    clear p0_1 p1_1 p2_1 p3_1 p4_1 p5_1
    clear b2
    have p0_2 := R12.out.cell 0 _ rfl
    have p1_2 := R12.out.cell 1 _ rfl
    have p2_2 := R12.out.cell 2 _ rfl
    have p3_2 := R12.out.cell 3 _ rfl
    have p4_2 := R12.out.cell 4 _ rfl
    have p5_2 := R12.out.cell 5 _ rfl
    go_wp2_with fail
    go_ret
    exact ⟨by rw [Hf.out]; rfl, HB12.out⟩
  have g4 := decide_eq_true h4
  by_cases h5 : 1 ≤ a4
  case neg =>
    have Hf := Lib.hid (Hno.out fun h => h5 h.lo)
    clear Hno Hyes
    have g5 := decide_eq_false h5
    clear h0 h1 h2
    go_enter Tryz.func40, Tryz.ntmps40
    go_wp2_with fail
    rw [← Hw1.out]
    refine (C0.out _ HB1.out).mono ?_
    rintro e y0 ⟨rfl, b0⟩
    have HB10 := Lib.hid (below_link HB1.out b0 HB1.out.size)
    have R10 := Lib.hid (R1.out.below b0)
    clear b0
    have p0_0 := R10.out.cell 0 _ rfl
    have p1_0 := R10.out.cell 1 _ rfl
    have p2_0 := R10.out.cell 2 _ rfl
    have p3_0 := R10.out.cell 3 _ rfl
    have p4_0 := R10.out.cell 4 _ rfl
    have p5_0 := R10.out.cell 5 _ rfl
    go_wp2_with fail
    refine (C1.out _ HB10.out).mono ?_
    rintro e y1 ⟨rfl, b1⟩
    have HB11 := Lib.hid (below_link HB10.out b1 HB10.out.size)
    have R11 := Lib.hid (R10.out.below b1)
    clear p0_0 p1_0 p2_0 p3_0 p4_0 p5_0
    clear b1
    have p0_1 := R11.out.cell 0 _ rfl
    have p1_1 := R11.out.cell 1 _ rfl
    have p2_1 := R11.out.cell 2 _ rfl
    have p3_1 := R11.out.cell 3 _ rfl
    have p4_1 := R11.out.cell 4 _ rfl
    have p5_1 := R11.out.cell 5 _ rfl
    go_wp2_with fail
    refine (C2.out _ HB11.out).mono ?_
    rintro e y2 ⟨rfl, b2⟩
    have HB12 := Lib.hid (below_link HB11.out b2 HB11.out.size)
    have R12 := Lib.hid (R11.out.below b2)
    clear p0_1 p1_1 p2_1 p3_1 p4_1 p5_1
    clear b2
    have p0_2 := R12.out.cell 0 _ rfl
    have p1_2 := R12.out.cell 1 _ rfl
    have p2_2 := R12.out.cell 2 _ rfl
    have p3_2 := R12.out.cell 3 _ rfl
    have p4_2 := R12.out.cell 4 _ rfl
    have p5_2 := R12.out.cell 5 _ rfl
    go_wp2_with fail
    go_ret
    exact ⟨by rw [Hf.out]; rfl, HB12.out⟩
  have g5 := decide_eq_true h5
  by_cases h6 : a4 ≤ 20
  case neg =>
    have Hf := Lib.hid (Hno.out fun h => h6 h.hi)
    clear Hno Hyes
    have g6 := decide_eq_false h6
    clear h0 h1 h2
    go_enter Tryz.func40, Tryz.ntmps40
    go_wp2_with fail
    rw [← Hw1.out]
    refine (C0.out _ HB1.out).mono ?_
    rintro e y0 ⟨rfl, b0⟩
    have HB10 := Lib.hid (below_link HB1.out b0 HB1.out.size)
    have R10 := Lib.hid (R1.out.below b0)
    clear b0
    have p0_0 := R10.out.cell 0 _ rfl
    have p1_0 := R10.out.cell 1 _ rfl
    have p2_0 := R10.out.cell 2 _ rfl
    have p3_0 := R10.out.cell 3 _ rfl
    have p4_0 := R10.out.cell 4 _ rfl
    have p5_0 := R10.out.cell 5 _ rfl
    go_wp2_with fail
    refine (C1.out _ HB10.out).mono ?_
    rintro e y1 ⟨rfl, b1⟩
    have HB11 := Lib.hid (below_link HB10.out b1 HB10.out.size)
    have R11 := Lib.hid (R10.out.below b1)
    clear p0_0 p1_0 p2_0 p3_0 p4_0 p5_0
    clear b1
    have p0_1 := R11.out.cell 0 _ rfl
    have p1_1 := R11.out.cell 1 _ rfl
    have p2_1 := R11.out.cell 2 _ rfl
    have p3_1 := R11.out.cell 3 _ rfl
    have p4_1 := R11.out.cell 4 _ rfl
    have p5_1 := R11.out.cell 5 _ rfl
    go_wp2_with fail
    refine (C2.out _ HB11.out).mono ?_
    rintro e y2 ⟨rfl, b2⟩
    have HB12 := Lib.hid (below_link HB11.out b2 HB11.out.size)
    have R12 := Lib.hid (R11.out.below b2)
    clear p0_1 p1_1 p2_1 p3_1 p4_1 p5_1
    clear b2
    have p0_2 := R12.out.cell 0 _ rfl
    have p1_2 := R12.out.cell 1 _ rfl
    have p2_2 := R12.out.cell 2 _ rfl
    have p3_2 := R12.out.cell 3 _ rfl
    have p4_2 := R12.out.cell 4 _ rfl
    have p5_2 := R12.out.cell 5 _ rfl
    go_wp2_with fail
    go_ret
    exact ⟨by rw [Hf.out]; rfl, HB12.out⟩
  have g6 := decide_eq_true h6
  have Hf := Lib.hid (Hyes.out ⟨h0, h1, h3, h4, h5, h6, h2⟩)
  clear Hno Hyes h0 h1 h2
  go_enter Tryz.func40, Tryz.ntmps40
  go_wp2_with fail
  rw [← Hw1.out]
  refine (C0.out _ HB1.out).mono ?_
  rintro e y0 ⟨rfl, b0⟩
  have HB10 := Lib.hid (below_link HB1.out b0 HB1.out.size)
  have R10 := Lib.hid (R1.out.below b0)
  clear b0
  have p0_0 := R10.out.cell 0 _ rfl
  have p1_0 := R10.out.cell 1 _ rfl
  have p2_0 := R10.out.cell 2 _ rfl
  have p3_0 := R10.out.cell 3 _ rfl
  have p4_0 := R10.out.cell 4 _ rfl
  have p5_0 := R10.out.cell 5 _ rfl
  go_wp2_with fail
  refine (C1.out _ HB10.out).mono ?_
  rintro e y1 ⟨rfl, b1⟩
  have HB11 := Lib.hid (below_link HB10.out b1 HB10.out.size)
  have R11 := Lib.hid (R10.out.below b1)
  clear p0_0 p1_0 p2_0 p3_0 p4_0 p5_0
  clear b1
  have p0_1 := R11.out.cell 0 _ rfl
  have p1_1 := R11.out.cell 1 _ rfl
  have p2_1 := R11.out.cell 2 _ rfl
  have p3_1 := R11.out.cell 3 _ rfl
  have p4_1 := R11.out.cell 4 _ rfl
  have p5_1 := R11.out.cell 5 _ rfl
  go_wp2_with fail
  refine (C2.out _ HB11.out).mono ?_
  rintro e y2 ⟨rfl, b2⟩
  have HB12 := Lib.hid (below_link HB11.out b2 HB11.out.size)
  have R12 := Lib.hid (R11.out.below b2)
  clear p0_1 p1_1 p2_1 p3_1 p4_1 p5_1
  clear b2
  have p0_2 := R12.out.cell 0 _ rfl
  have p1_2 := R12.out.cell 1 _ rfl
  have p2_2 := R12.out.cell 2 _ rfl
  have p3_2 := R12.out.cell 3 _ rfl
  have p4_2 := R12.out.cell 4 _ rfl
  have p5_2 := R12.out.cell 5 _ rfl
  go_wp2_with fail
  go_ret
  exact ⟨by rw [Hf.out]; rfl, HB12.out⟩
end Go.Proofs.YtcfbkfmkjggcdaaGreatDoor.pod
namespace Go.Proofs.YtcfbkfmkjggcdaaGreatDoor.taint
open Go.ChangeShapes Go.WideShapes Go.ChangeAt Go.RowKit ty
set_option linter.unusedVariables false

set_option maxRecDepth 100000 in
theorem impl_cofTaint (l : List Taint) (f : Nat) (v : Value) (w : World) (h : Lies w f v (.sl 3 l.length (l.flatMap Taint.row))) (hn : l.length ≤ 1048576) :
    Calls Tryz.prog 110 #[v] w fun e w' => ∃ g c, e = .returned (.slice (some ⟨g, 0, none⟩) l.length c) ∧ w'.ownsRow w.heap.size 72 3 (.slice (some ⟨g, 0, none⟩) l.length c) l.length (l.flatMap Taint.cells) ∧ Below w.heap.size w w' := by
  obtain ⟨A, c, rfl, hc1, hc2, f', rfl, hk⟩ := els_of Taint.row_length h
  unfold maxLen at hc2
  have Hr := Lib.hid (rdk_Taint hk).1
  clear h hk
  obtain ⟨i0, hi, hz0, hz1, hz2⟩ := info_parts TryzinfITaint
  have Hlit : Hid ((w.alloc (.cells #[] 72)).ownsRow w.heap.size 72 3 (.slice (some ⟨w.heap.size, 0, none⟩) 0 0) 0 []) :=
    World.ownsRow_lit w #[] 0 (Nat.le_refl _) (by simp [maxLen]) rfl
  have Hb := Lib.hid (fun o => (Below.refl w.heap.size w).alloc (Nat.le_refl _) o)
  have hn2 := Lib.hid hn
  clear hn
  go_enter Tryz.func110, Tryz.ntmps110
  go_wp2_with (first | (at_builtin; refine wpList_append_rdk rfl (.tmp 3) (.tmp 4) 30 rfl w.heap.size 72 i0 _ 3 40 Tryz.underlying30 hi hz0 hz1 hz2 rfl (by decide) _ 0 [] rfl Hlit.out A l.length c (l.flatMap Taint.cells) rfl (Hr.out.below (Hb.out _)) (flt.ones_flat Taint.cells_one l) (by have := hn2.out; unfold maxLen; omega) (by have := hn2.out; omega) (by simp) ?_; intro v1 w1 o1 o2 o3) | fail)
  try rw [Nat.zero_add, List.nil_append] at o1
  have hbel : Below w.heap.size w w1 := (Hb.out _).grown o2 (by simp) (fun q hq => (Hlit.out.lt q hq).1)
  obtain ⟨x, hx⟩ : ∃ x, v1.ownBlock = some x := by
    rcases o3 with e | e
    · exact ⟨_, e.trans rfl⟩
    · exact ⟨_, e⟩
  obtain ⟨c1, rfl, _⟩ := own_some o1 hx
  have O := Lib.hid (show ∃ g c, Ending.returned (.slice (some ⟨x, 0, none⟩) l.length c1) = .returned (.slice (some ⟨g, 0, none⟩) l.length c) ∧ w1.ownsRow w.heap.size 72 3 (.slice (some ⟨g, 0, none⟩) l.length c) l.length (l.flatMap Taint.cells) ∧ Below w.heap.size w w1 from ⟨x, c1, rfl, o1, hbel⟩)
  clear o1 o2 o3 hx hbel Hlit Hb Hr
  go_wp2_with fail
  go_ret
  exact O.out
end Go.Proofs.YtcfbkfmkjggcdaaGreatDoor.taint
namespace Go.Proofs.YtcfbkfmkjggcdaaGreatDoor.ty
open Go.ChangeShapes Go.WideShapes Go.ChangeAt Go.RowKit
set_option linter.unusedVariables false

instance : Inhabited Taint := ⟨⟨⟨#[]⟩, ⟨#[]⟩, 0⟩⟩
theorem csTaint : Tryz.prog.cellsOf 157 = 3 := by kernel_rfl
theorem csTaint_string : Tryz.prog.cellsOf 9 = 1 := by kernel_rfl
theorem csTaint_int : Tryz.prog.cellsOf 3 = 1 := by kernel_rfl
section
variable {H : Type} {enc : TypeId × Value → H} {w : World} {base : Nat} {sp : Nat → Bool} {held : Bool}
set_option maxRecDepth 100000 in
theorem trodTaint (fuel : Nat) (cs : List Value) (x : DataW H × List MemPlace) (h : DataW.trod enc Tryz.prog w base sp held fuel 157 cs = some x) : ∃ t : Taint, LiesS w fuel cs t.row := by
  obtain ⟨xs, n, rfl, _, hl, hxl, hf⟩ := DataW.trod_struct Tryz.underlying157 h
  rw [csTaint] at hl
  have hxlk : xs.length = 3 := hxl
  obtain ⟨u0, u1, u2, rfl⟩ := of_Taint hl
  obtain ⟨y0, y1, y2, rfl⟩ := of_Taint hxlk
  have f0 := hf 0 _ rfl
  have f1 := hf 1 _ rfl
  have f2 := hf 2 _ rfl
  simp only [csTaint_string, csTaint_int, List.drop_zero, List.drop_succ_cons, List.take_succ_cons, List.take_zero, List.getElem?_cons_zero, List.getElem?_cons_succ] at f0 f1 f2
  obtain ⟨z0, e0, _, w0⟩ := DataW.trod_string Tryz.underlying9 f0
  obtain ⟨z1, e1, _, w1⟩ := DataW.trod_string Tryz.underlying9 f1
  obtain ⟨z2, e2, _, w2⟩ := DataW.trod_int Tryz.underlying3 f2
  injection e0 with e0
  injection e1 with e1
  injection e2 with e2
  subst e0 e1 e2
  refine ⟨⟨z0, z1, z2⟩, ?_⟩
  cases n with
  | zero => simp [DataW.trod] at f0
  | succ n => exact (Taint.lies (f := n) (x := ⟨z0, z1, z2⟩) ⟨w0, w1, w2⟩).deeper (by omega)
set_option maxRecDepth 100000 in
theorem open_TaintS {r : Reach} {b0 : Nat} {v : Value} {d : DataW H} {ps : List MemPlace}
    (hval : Value.okWide Tryz.prog w r b0 54 v) (hd : DataW.Trod enc Tryz.prog w base sp held 54 v d ps) : ∃ (l : List Taint) (f : Nat), Lies w f v (.sl 3 l.length (l.flatMap Taint.row)) := by
  obtain ⟨A, n, c, rfl⟩ := okWide_slice Tryz.underlying54 hval
  obtain ⟨fuel, hf⟩ := hd
  obtain ⟨v', l, h1, h2⟩ := lies_slice (α := Taint) Taint.row Tryz.underlying54 csTaint (by decide) Taint.row_length (fun n cs' y _ hy => trodTaint n cs' y hy) hf
  have e : v' = .slice A n c := by simpa [Value.cells] using h1.symm
  subst e
  exact ⟨l, fuel, h2⟩
end
end Go.Proofs.YtcfbkfmkjggcdaaGreatDoor.ty
namespace Go.Proofs.YtcfbkfmkjggcdaaGreatDoor.ty
open Go.ChangeShapes Go.WideShapes Go.ChangeAt Go.RowKit
set_option linter.unusedVariables false

instance : Inhabited Host := ⟨⟨⟨#[]⟩, [], 0, 0, 0, []⟩⟩
theorem csHost : Tryz.prog.cellsOf 56 = 6 := by kernel_rfl
theorem csHost_string : Tryz.prog.cellsOf 9 = 1 := by kernel_rfl
theorem csHost_sl_Label : Tryz.prog.cellsOf 45 = 1 := by kernel_rfl
theorem csHost_int : Tryz.prog.cellsOf 3 = 1 := by kernel_rfl
theorem csHost_sl_Taint : Tryz.prog.cellsOf 54 = 1 := by kernel_rfl
section
variable {H : Type} {enc : TypeId × Value → H} {w : World} {base : Nat} {sp : Nat → Bool} {held : Bool}
set_option maxRecDepth 100000 in
theorem trodHost (fuel : Nat) (cs : List Value) (x : DataW H × List MemPlace) (h : DataW.trod enc Tryz.prog w base sp held fuel 56 cs = some x) : ∃ t : Host, LiesS w fuel cs t.row := by
  obtain ⟨xs, n, hfn, _, hl, hxl, hf⟩ := DataW.trod_struct Tryz.underlying56 h
  rw [csHost] at hl
  have hxlk : xs.length = 6 := hxl
  obtain ⟨u0, u1, u2, u3, u4, u5, rfl⟩ := of_Host hl
  obtain ⟨y0, y1, y2, y3, y4, y5, rfl⟩ := of_Host hxlk
  have f0 := hf 0 _ rfl
  have f1 := hf 1 _ rfl
  have f2 := hf 2 _ rfl
  have f3 := hf 3 _ rfl
  have f4 := hf 4 _ rfl
  have f5 := hf 5 _ rfl
  simp only [csHost_string, csHost_sl_Label, csHost_int, csHost_sl_Taint, List.drop_zero, List.drop_succ_cons, List.take_succ_cons, List.take_zero, List.getElem?_cons_zero, List.getElem?_cons_succ] at f0 f1 f2 f3 f4 f5
  obtain ⟨z0, e0, _, w0⟩ := DataW.trod_string Tryz.underlying9 f0
  obtain ⟨v1, z1, e1, l1⟩ := lies_slice (α := Label) Label.row Tryz.underlying45 csLabel (by decide) Label.row_length (fun n cs' y _ hy => trodLabel n cs' y hy) f1
  obtain ⟨z2, e2, _, w2⟩ := DataW.trod_int Tryz.underlying3 f2
  obtain ⟨z3, e3, _, w3⟩ := DataW.trod_int Tryz.underlying3 f3
  obtain ⟨z4, e4, _, w4⟩ := DataW.trod_int Tryz.underlying3 f4
  obtain ⟨v5, z5, e5, l5⟩ := lies_slice (α := Taint) Taint.row Tryz.underlying54 csTaint (by decide) Taint.row_length (fun n cs' y _ hy => trodTaint n cs' y hy) f5
  injection e0 with e0
  injection e1 with e1
  injection e2 with e2
  injection e3 with e3
  injection e4 with e4
  injection e5 with e5
  subst e0 e1 e2 e3 e4 e5
  refine ⟨⟨z0, z1, z2, z3, z4, z5⟩, ?_⟩
  subst hfn
  cases n with
  | zero => simp [DataW.trod] at f0
  | succ n =>
    have m0 : Lies w (n + 1) (.string z0) (.str z0) := ⟨rfl, w0⟩
    have m1 := l1
    have m2 : Lies w (n + 1) (.int .i64 z2) (.int .i64 z2) := ⟨rfl, w2⟩
    have m3 : Lies w (n + 1) (.int .i64 z3) (.int .i64 z3) := ⟨rfl, w3⟩
    have m4 : Lies w (n + 1) (.int .i64 z4) (.int .i64 z4) := ⟨rfl, w4⟩
    have m5 := l5
    exact ((LiesS.cons m0 (LiesS.cons m1 (LiesS.cons m2 (LiesS.cons m3 (LiesS.cons m4 (LiesS.cons m5 LiesS.nil))))))).deeper (Nat.le_succ _)
end
end Go.Proofs.YtcfbkfmkjggcdaaGreatDoor.ty
namespace Go.Proofs.YtcfbkfmkjggcdaaGreatDoor.ty
open Go.ChangeShapes Go.WideShapes Go.ChangeAt Go.RowKit
set_option linter.unusedVariables false

section
variable {H : Type} {enc : TypeId × Value → H} {w : World} {base : Nat} {sp : Nat → Bool} {held : Bool}
set_option maxRecDepth 100000 in
theorem open_Host {r : Reach} {b0 : Nat} {v : Value} {d : DataW H} {ps : List MemPlace}
    (hval : Value.okWide Tryz.prog w r b0 56 v) (hd : DataW.Trod enc Tryz.prog w base sp held 56 v d ps) : ∃ (t : Host) (f : Nat) (vs : List Value), v = .agg vs.toArray ∧ LiesS w f vs t.row := by
  obtain ⟨cs, rfl, hsz⟩ := okWide_struct Tryz.underlying56 hval
  obtain ⟨fuel, hf⟩ := hd
  obtain ⟨l⟩ := cs
  obtain ⟨t, ht⟩ := trodHost fuel _ _ hf
  exact ⟨t, fuel, l, rfl, by simpa [Value.cells] using ht⟩
end
end Go.Proofs.YtcfbkfmkjggcdaaGreatDoor.ty
