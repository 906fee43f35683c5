/- impl.PodOk. Printed by gen/gen_conj.py. -/
import Derived.Test.YtcfbkfmkjggcdaaGreatDoorGA5
import Derived.Test.YtcfbkfmkjggcdaaGreatDoorGA2
import Derived.Test.YtcfbkfmkjggcdaaGreatDoorGA8
import Derived.Test.YtcfbkfmkjggcdaaGreatDoorGA15
import Derived.Test.YtcfbkfmkjggcdaaGreatDoorGA19
import Derived.Test.YtcfbkfmkjggcdaaGreatDoorGA6
import Derived.Laws.Cover1
namespace Go.Proofs.YtcfbkfmkjggcdaaGreatDoor.pod
open Go.ChangeShapes Go.WideShapes Go.ChangeAt Go.RowKit ty lab need taint
set_option linter.unusedVariables false
set_option maxRecDepth 100000 in
set_option maxHeartbeats 32000000 in
theorem impl_pod (x : Pod) (f : Nat) (us : List Value) (w : World) (h : LiesS w f us x.row) (hz : x.wt ≤ 1048576) :
    Calls Tryz.prog 37 #[.agg us.toArray] w fun e w' => e = .returned (.bool (yes (PodP x))) ∧ Below w.heap.size w w' := by
  obtain ⟨R, hR⟩ : ∃ R, yes (PodP x) = R := ⟨_, rfl⟩
  rw [hR]
  have Hno : Hid (¬ PodP x → R = false) := fun h => by rw [← hR]; exact yes_f h
  have Hyes : Hid (PodP x → R = true) := fun h => by rw [← hR]; exact yes_t h
  clear hR
  obtain ⟨a0, a1, a2, a3, a4, a5, a6⟩ := x
  obtain ⟨A1, c1, A5, c5, A6, c6, rfl, hwf, k1, m1, l1, k5, m5, l5, k6, m6, l6⟩ := Pod.opened h
  unfold Pod.wt at hz
  simp only at hz hwf k1 m1 l1 k5 m5 l5 k6 m6 l6
  obtain ⟨w1, hw1⟩ : ∃ w1, w1 = w.alloc (.cells #[.string a0, .slice A1 a1.length c1, .int .i64 a2, .int .i64 a3, .int .i64 a4, .slice A5 a5.length c5, .slice A6 a6.length c6] 28) := ⟨_, rfl⟩
  have hb1 : Below w.heap.size w w1 := by rw [hw1]; exact (Below.refl _ _).alloc (Nat.le_refl _) _
  have R1 := Lib.hid (show RowE 28 w1 w.heap.size [.string a0, .slice A1 a1.length c1, .int .i64 a2, .int .i64 a3, .int .i64 a4, .slice A5 a5.length c5, .slice A6 a6.length c6] by rw [hw1]; exact RowE.new _ _ _)
  have Hw1 := Lib.hid hw1
  have C0 := Lib.hid (fun w' (hb : Below w.heap.size w w') => impl_name a0 w' (by omega))
  have C1 := Lib.hid (fun w' (hb : Below w.heap.size w w') => impl_labels a1 f _ w' (l1.below hb) (small_of (by omega)))
  have C2 := Lib.hid (fun w' (hb : Below w.heap.size w w') => impl_sel a5 f _ w' (l5.below hb) (by omega))
  have C3 := Lib.hid (fun w' (hb : Below w.heap.size w w') => impl_oksTolerance a6 f _ w' (l6.below hb))
  have HB1 := Lib.hid hb1
  clear h hz hwf hb1 hw1 k1 m1 l1 k5 m5 l5 k6 m6 l6
  by_cases h0 : NameP a0
  case neg =>
    have Hf := Lib.hid (Hno.out fun h => h0 h.name)
    clear Hno Hyes
    rw [yes_f h0] at C0
    clear h0
    go_enter Tryz.func37, Tryz.ntmps37
    go_wp2_with fail
    rw [← Hw1.out]
    refine (C0.out _ HB1.out).mono ?_
    rintro e y0 ⟨rfl, b0⟩
    have HB10 := Lib.hid (below_link HB1.out b0 HB1.out.size)
    have R10 := Lib.hid (R1.out.below b0)
    clear b0
    have p0_0 := R10.out.cell 0 _ rfl
    have p1_0 := R10.out.cell 1 _ rfl
    have p2_0 := R10.out.cell 2 _ rfl
    have p3_0 := R10.out.cell 3 _ rfl
    have p4_0 := R10.out.cell 4 _ rfl
    have p5_0 := R10.out.cell 5 _ rfl
    have p6_0 := R10.out.cell 6 _ rfl
    go_wp2_with fail
    go_ret
    exact ⟨by rw [Hf.out]; rfl, HB10.out⟩
  rw [yes_t h0] at C0
  by_cases h1 : LabelsP a1
  case neg =>
    have Hf := Lib.hid (Hno.out fun h => h1 h.labels)
    clear Hno Hyes
    rw [yes_f h1] at C1
    clear h0 h1
    go_enter Tryz.func37, Tryz.ntmps37
    go_wp2_with fail
    rw [← Hw1.out]
    refine (C0.out _ HB1.out).mono ?_
    rintro e y0 ⟨rfl, b0⟩
    have HB10 := Lib.hid (below_link HB1.out b0 HB1.out.size)
    have R10 := Lib.hid (R1.out.below b0)
    clear b0
    have p0_0 := R10.out.cell 0 _ rfl
    have p1_0 := R10.out.cell 1 _ rfl
    have p2_0 := R10.out.cell 2 _ rfl
    have p3_0 := R10.out.cell 3 _ rfl
    have p4_0 := R10.out.cell 4 _ rfl
    have p5_0 := R10.out.cell 5 _ rfl
    have p6_0 := R10.out.cell 6 _ rfl
    go_wp2_with fail
    refine (C1.out _ HB10.out).mono ?_
    rintro e y1 ⟨rfl, b1⟩
    have HB11 := Lib.hid (below_link HB10.out b1 HB10.out.size)
    have R11 := Lib.hid (R10.out.below b1)
    clear p0_0 p1_0 p2_0 p3_0 p4_0 p5_0 p6_0
    clear b1
    have p0_1 := R11.out.cell 0 _ rfl
    have p1_1 := R11.out.cell 1 _ rfl
    have p2_1 := R11.out.cell 2 _ rfl
    have p3_1 := R11.out.cell 3 _ rfl
    have p4_1 := R11.out.cell 4 _ rfl
    have p5_1 := R11.out.cell 5 _ rfl
    have p6_1 := R11.out.cell 6 _ rfl
    go_wp2_with fail
    go_ret
    exact ⟨by rw [Hf.out]; rfl, HB11.out⟩
  rw [yes_t h1] at C1
  by_cases h2 : SelP a5
  case neg =>
    have Hf := Lib.hid (Hno.out fun h => h2 h.needs)
    clear Hno Hyes
    rw [yes_f h2] at C2
    clear h0 h1 h2
    go_enter Tryz.func37, Tryz.ntmps37
    go_wp2_with fail
    rw [← Hw1.out]
    refine (C0.out _ HB1.out).mono ?_
    rintro e y0 ⟨rfl, b0⟩
    have HB10 := Lib.hid (below_link HB1.out b0 HB1.out.size)
    have R10 := Lib.hid (R1.out.below b0)
    clear b0
    have p0_0 := R10.out.cell 0 _ rfl
    have p1_0 := R10.out.cell 1 _ rfl
    have p2_0 := R10.out.cell 2 _ rfl
    have p3_0 := R10.out.cell 3 _ rfl
    have p4_0 := R10.out.cell 4 _ rfl
    have p5_0 := R10.out.cell 5 _ rfl
    have p6_0 := R10.out.cell 6 _ rfl
    go_wp2_with fail
    refine (C1.out _ HB10.out).mono ?_
    rintro e y1 ⟨rfl, b1⟩
    have HB11 := Lib.hid (below_link HB10.out b1 HB10.out.size)
    have R11 := Lib.hid (R10.out.below b1)
    clear p0_0 p1_0 p2_0 p3_0 p4_0 p5_0 p6_0
    clear b1
    have p0_1 := R11.out.cell 0 _ rfl
    have p1_1 := R11.out.cell 1 _ rfl
    have p2_1 := R11.out.cell 2 _ rfl
    have p3_1 := R11.out.cell 3 _ rfl
    have p4_1 := R11.out.cell 4 _ rfl
    have p5_1 := R11.out.cell 5 _ rfl
    have p6_1 := R11.out.cell 6 _ rfl
    go_wp2_with fail
    refine (C2.out _ HB11.out).mono ?_
    rintro e y2 ⟨rfl, b2⟩
    have HB12 := Lib.hid (below_link HB11.out b2 HB11.out.size)
    have R12 := Lib.hid (R11.out.below b2)
    clear p0_1 p1_1 p2_1 p3_1 p4_1 p5_1 p6_1
    clear b2
    have p0_2 := R12.out.cell 0 _ rfl
    have p1_2 := R12.out.cell 1 _ rfl
    have p2_2 := R12.out.cell 2 _ rfl
    have p3_2 := R12.out.cell 3 _ rfl
    have p4_2 := R12.out.cell 4 _ rfl
    have p5_2 := R12.out.cell 5 _ rfl
    have p6_2 := R12.out.cell 6 _ rfl
    go_wp2_with fail
    go_ret
    exact ⟨by rw [Hf.out]; rfl, HB12.out⟩
  rw [yes_t h2] at C2
  by_cases h3 : TolsP a6
  case neg =>
    have Hf := Lib.hid (Hno.out fun h => h3 h.tolerances)
    clear Hno Hyes
    rw [yes_f h3] at C3
    clear h0 h1 h2 h3
    go_enter Tryz.func37, Tryz.ntmps37
    go_wp2_with fail
    rw [← Hw1.out]
    refine (C0.out _ HB1.out).mono ?_
    rintro e y0 ⟨rfl, b0⟩
    have HB10 := Lib.hid (below_link HB1.out b0 HB1.out.size)
    have R10 := Lib.hid (R1.out.below b0)
    clear b0
    have p0_0 := R10.out.cell 0 _ rfl
    have p1_0 := R10.out.cell 1 _ rfl
    have p2_0 := R10.out.cell 2 _ rfl
    have p3_0 := R10.out.cell 3 _ rfl
    have p4_0 := R10.out.cell 4 _ rfl
    have p5_0 := R10.out.cell 5 _ rfl
    have p6_0 := R10.out.cell 6 _ rfl
    go_wp2_with fail
    refine (C1.out _ HB10.out).mono ?_
    rintro e y1 ⟨rfl, b1⟩
    have HB11 := Lib.hid (below_link HB10.out b1 HB10.out.size)
    have R11 := Lib.hid (R10.out.below b1)
    clear p0_0 p1_0 p2_0 p3_0 p4_0 p5_0 p6_0
    clear b1
    have p0_1 := R11.out.cell 0 _ rfl
    have p1_1 := R11.out.cell 1 _ rfl
    have p2_1 := R11.out.cell 2 _ rfl
    have p3_1 := R11.out.cell 3 _ rfl
    have p4_1 := R11.out.cell 4 _ rfl
    have p5_1 := R11.out.cell 5 _ rfl
    have p6_1 := R11.out.cell 6 _ rfl
    go_wp2_with fail
    refine (C2.out _ HB11.out).mono ?_
    rintro e y2 ⟨rfl, b2⟩
    have HB12 := Lib.hid (below_link HB11.out b2 HB11.out.size)
    have R12 := Lib.hid (R11.out.below b2)
    clear p0_1 p1_1 p2_1 p3_1 p4_1 p5_1 p6_1
    clear b2
    have p0_2 := R12.out.cell 0 _ rfl
    have p1_2 := R12.out.cell 1 _ rfl
    have p2_2 := R12.out.cell 2 _ rfl
    have p3_2 := R12.out.cell 3 _ rfl
    have p4_2 := R12.out.cell 4 _ rfl
    have p5_2 := R12.out.cell 5 _ rfl
    have p6_2 := R12.out.cell 6 _ rfl
    go_wp2_with fail
    refine (C3.out _ HB12.out).mono ?_
    rintro e y3 ⟨rfl, b3⟩
    have HB13 := Lib.hid (below_link HB12.out b3 HB12.out.size)
    have R13 := Lib.hid (R12.out.below b3)
    clear p0_2 p1_2 p2_2 p3_2 p4_2 p5_2 p6_2
    clear b3
    have p0_3 := R13.out.cell 0 _ rfl
    have p1_3 := R13.out.cell 1 _ rfl
    have p2_3 := R13.out.cell 2 _ rfl
    have p3_3 := R13.out.cell 3 _ rfl
    have p4_3 := R13.out.cell 4 _ rfl
    have p5_3 := R13.out.cell 5 _ rfl
    have p6_3 := R13.out.cell 6 _ rfl
    go_wp2_with fail
    go_ret
    exact ⟨by rw [Hf.out]; rfl, HB13.out⟩
  rw [yes_t h3] at C3
  by_cases h4 : 0 ≤ a2
  case neg =>
    have Hf := Lib.hid (Hno.out fun h => h4 h.cpu)
    clear Hno Hyes
    have g4 := decide_eq_false h4
    clear h0 h1 h2 h3
    go_enter Tryz.func37, Tryz.ntmps37
    go_wp2_with fail
    rw [← Hw1.out]
    refine (C0.out _ HB1.out).mono ?_
    rintro e y0 ⟨rfl, b0⟩
    have HB10 := Lib.hid (below_link HB1.out b0 HB1.out.size)
    have R10 := Lib.hid (R1.out.below b0)
    clear b0
    have p0_0 := R10.out.cell 0 _ rfl
    have p1_0 := R10.out.cell 1 _ rfl
    have p2_0 := R10.out.cell 2 _ rfl
    have p3_0 := R10.out.cell 3 _ rfl
    have p4_0 := R10.out.cell 4 _ rfl
    have p5_0 := R10.out.cell 5 _ rfl
    have p6_0 := R10.out.cell 6 _ rfl
    go_wp2_with fail
    refine (C1.out _ HB10.out).mono ?_
    rintro e y1 ⟨rfl, b1⟩
    have HB11 := Lib.hid (below_link HB10.out b1 HB10.out.size)
    have R11 := Lib.hid (R10.out.below b1)
    clear p0_0 p1_0 p2_0 p3_0 p4_0 p5_0 p6_0
    clear b1
    have p0_1 := R11.out.cell 0 _ rfl
    have p1_1 := R11.out.cell 1 _ rfl
    have p2_1 := R11.out.cell 2 _ rfl
    have p3_1 := R11.out.cell 3 _ rfl
    have p4_1 := R11.out.cell 4 _ rfl
    have p5_1 := R11.out.cell 5 _ rfl
    have p6_1 := R11.out.cell 6 _ rfl
    go_wp2_with fail
    refine (C2.out _ HB11.out).mono ?_
    rintro e y2 ⟨rfl, b2⟩
    have HB12 := Lib.hid (below_link HB11.out b2 HB11.out.size)
    have R12 := Lib.hid (R11.out.below b2)
    clear p0_1 p1_1 p2_1 p3_1 p4_1 p5_1 p6_1
    clear b2
    have p0_2 := R12.out.cell 0 _ rfl
    have p1_2 := R12.out.cell 1 _ rfl
    have p2_2 := R12.out.cell 2 _ rfl
    have p3_2 := R12.out.cell 3 _ rfl
    have p4_2 := R12.out.cell 4 _ rfl
    have p5_2 := R12.out.cell 5 _ rfl
    have p6_2 := R12.out.cell 6 _ rfl
    go_wp2_with fail
    refine (C3.out _ HB12.out).mono ?_
    rintro e y3 ⟨rfl, b3⟩
    have HB13 := Lib.hid (below_link HB12.out b3 HB12.out.size)
    have R13 := Lib.hid (R12.out.below b3)
    clear p0_2 p1_2 p2_2 p3_2 p4_2 p5_2 p6_2
    clear b3
    have p0_3 := R13.out.cell 0 _ rfl
    have p1_3 := R13.out.cell 1 _ rfl
    have p2_3 := R13.out.cell 2 _ rfl
    have p3_3 := R13.out.cell 3 _ rfl
    have p4_3 := R13.out.cell 4 _ rfl
    have p5_3 := R13.out.cell 5 _ rfl
    have p6_3 := R13.out.cell 6 _ rfl
    go_wp2_with fail
    go_ret
    exact ⟨by rw [Hf.out]; rfl, HB13.out⟩
  have g4 := decide_eq_true h4
  by_cases h5 : 0 ≤ a3
  case neg =>
    have Hf := Lib.hid (Hno.out fun h => h5 h.mem)
    clear Hno Hyes
    have g5 := decide_eq_false h5
    clear h0 h1 h2 h3
    go_enter Tryz.func37, Tryz.ntmps37
    go_wp2_with fail
    rw [← Hw1.out]
    refine (C0.out _ HB1.out).mono ?_
    rintro e y0 ⟨rfl, b0⟩
    have HB10 := Lib.hid (below_link HB1.out b0 HB1.out.size)
    have R10 := Lib.hid (R1.out.below b0)
    clear b0
    have p0_0 := R10.out.cell 0 _ rfl
    have p1_0 := R10.out.cell 1 _ rfl
    have p2_0 := R10.out.cell 2 _ rfl
    have p3_0 := R10.out.cell 3 _ rfl
    have p4_0 := R10.out.cell 4 _ rfl
    have p5_0 := R10.out.cell 5 _ rfl
    have p6_0 := R10.out.cell 6 _ rfl
    go_wp2_with fail
    refine (C1.out _ HB10.out).mono ?_
    rintro e y1 ⟨rfl, b1⟩
    have HB11 := Lib.hid (below_link HB10.out b1 HB10.out.size)
    have R11 := Lib.hid (R10.out.below b1)
    clear p0_0 p1_0 p2_0 p3_0 p4_0 p5_0 p6_0
    clear b1
    have p0_1 := R11.out.cell 0 _ rfl
    have p1_1 := R11.out.cell 1 _ rfl
    have p2_1 := R11.out.cell 2 _ rfl
    have p3_1 := R11.out.cell 3 _ rfl
    have p4_1 := R11.out.cell 4 _ rfl
    have p5_1 := R11.out.cell 5 _ rfl
    have p6_1 := R11.out.cell 6 _ rfl
    go_wp2_with fail
    refine (C2.out _ HB11.out).mono ?_
    rintro e y2 ⟨rfl, b2⟩
    have HB12 := Lib.hid (below_link HB11.out b2 HB11.out.size)
    have R12 := Lib.hid (R11.out.below b2)
    clear p0_1 p1_1 p2_1 p3_1 p4_1 p5_1 p6_1
    clear b2
    have p0_2 := R12.out.cell 0 _ rfl
    have p1_2 := R12.out.cell 1 _ rfl
    have p2_2 := R12.out.cell 2 _ rfl
    have p3_2 := R12.out.cell 3 _ rfl
    have p4_2 := R12.out.cell 4 _ rfl
    have p5_2 := R12.out.cell 5 _ rfl
    have p6_2 := R12.out.cell 6 _ rfl
    go_wp2_with fail
    refine (C3.out _ HB12.out).mono ?_
    rintro e y3 ⟨rfl, b3⟩
    have HB13 := Lib.hid (below_link HB12.out b3 HB12.out.size)
    have R13 := Lib.hid (R12.out.below b3)
    clear p0_2 p1_2 p2_2 p3_2 p4_2 p5_2 p6_2
    clear b3
    have p0_3 := R13.out.cell 0 _ rfl
    have p1_3 := R13.out.cell 1 _ rfl
    have p2_3 := R13.out.cell 2 _ rfl
    have p3_3 := R13.out.cell 3 _ rfl
    have p4_3 := R13.out.cell 4 _ rfl
    have p5_3 := R13.out.cell 5 _ rfl
    have p6_3 := R13.out.cell 6 _ rfl
    go_wp2_with fail
    go_ret
    exact ⟨by rw [Hf.out]; rfl, HB13.out⟩
  have g5 := decide_eq_true h5
  by_cases h6 : 0 ≤ a4
  case neg =>
    have Hf := Lib.hid (Hno.out fun h => h6 h.lo)
    clear Hno Hyes
    have g6 := decide_eq_false h6
    clear h0 h1 h2 h3
    go_enter Tryz.func37, Tryz.ntmps37
    go_wp2_with fail
    rw [← Hw1.out]
    refine (C0.out _ HB1.out).mono ?_
    rintro e y0 ⟨rfl, b0⟩
    have HB10 := Lib.hid (below_link HB1.out b0 HB1.out.size)
    have R10 := Lib.hid (R1.out.below b0)
    clear b0
    have p0_0 := R10.out.cell 0 _ rfl
    have p1_0 := R10.out.cell 1 _ rfl
    have p2_0 := R10.out.cell 2 _ rfl
    have p3_0 := R10.out.cell 3 _ rfl
    have p4_0 := R10.out.cell 4 _ rfl
    have p5_0 := R10.out.cell 5 _ rfl
    have p6_0 := R10.out.cell 6 _ rfl
    go_wp2_with fail
    refine (C1.out _ HB10.out).mono ?_
    rintro e y1 ⟨rfl, b1⟩
    have HB11 := Lib.hid (below_link HB10.out b1 HB10.out.size)
    have R11 := Lib.hid (R10.out.below b1)
    clear p0_0 p1_0 p2_0 p3_0 p4_0 p5_0 p6_0
    clear b1
    have p0_1 := R11.out.cell 0 _ rfl
    have p1_1 := R11.out.cell 1 _ rfl
    have p2_1 := R11.out.cell 2 _ rfl
    have p3_1 := R11.out.cell 3 _ rfl
    have p4_1 := R11.out.cell 4 _ rfl
    have p5_1 := R11.out.cell 5 _ rfl
    have p6_1 := R11.out.cell 6 _ rfl
    go_wp2_with fail
    refine (C2.out _ HB11.out).mono ?_
    rintro e y2 ⟨rfl, b2⟩
    have HB12 := Lib.hid (below_link HB11.out b2 HB11.out.size)
    have R12 := Lib.hid (R11.out.below b2)
    clear p0_1 p1_1 p2_1 p3_1 p4_1 p5_1 p6_1
    clear b2
    have p0_2 := R12.out.cell 0 _ rfl
    have p1_2 := R12.out.cell 1 _ rfl
    have p2_2 := R12.out.cell 2 _ rfl
    have p3_2 := R12.out.cell 3 _ rfl
    have p4_2 := R12.out.cell 4 _ rfl
    have p5_2 := R12.out.cell 5 _ rfl
    have p6_2 := R12.out.cell 6 _ rfl
    go_wp2_with fail
    refine (C3.out _ HB12.out).mono ?_
    rintro e y3 ⟨rfl, b3⟩
    have HB13 := Lib.hid (below_link HB12.out b3 HB12.out.size)
    have R13 := Lib.hid (R12.out.below b3)
    clear p0_2 p1_2 p2_2 p3_2 p4_2 p5_2 p6_2
    clear b3
    have p0_3 := R13.out.cell 0 _ rfl
    have p1_3 := R13.out.cell 1 _ rfl
    have p2_3 := R13.out.cell 2 _ rfl
    have p3_3 := R13.out.cell 3 _ rfl
    have p4_3 := R13.out.cell 4 _ rfl
    have p5_3 := R13.out.cell 5 _ rfl
    have p6_3 := R13.out.cell 6 _ rfl
    go_wp2_with fail
    go_ret
    exact ⟨by rw [Hf.out]; rfl, HB13.out⟩
  have g6 := decide_eq_true h6
  by_cases h7 : a4 ≤ 1000
  case neg =>
    have Hf := Lib.hid (Hno.out fun h => h7 h.hi)
    clear Hno Hyes
    have g7 := decide_eq_false h7
    clear h0 h1 h2 h3
    go_enter Tryz.func37, Tryz.ntmps37
    go_wp2_with fail
    rw [← Hw1.out]
    refine (C0.out _ HB1.out).mono ?_
    rintro e y0 ⟨rfl, b0⟩
    have HB10 := Lib.hid (below_link HB1.out b0 HB1.out.size)
    have R10 := Lib.hid (R1.out.below b0)
    clear b0
    have p0_0 := R10.out.cell 0 _ rfl
    have p1_0 := R10.out.cell 1 _ rfl
    have p2_0 := R10.out.cell 2 _ rfl
    have p3_0 := R10.out.cell 3 _ rfl
    have p4_0 := R10.out.cell 4 _ rfl
    have p5_0 := R10.out.cell 5 _ rfl
    have p6_0 := R10.out.cell 6 _ rfl
    go_wp2_with fail
    refine (C1.out _ HB10.out).mono ?_
    rintro e y1 ⟨rfl, b1⟩
    have HB11 := Lib.hid (below_link HB10.out b1 HB10.out.size)
    have R11 := Lib.hid (R10.out.below b1)
    clear p0_0 p1_0 p2_0 p3_0 p4_0 p5_0 p6_0
    clear b1
    have p0_1 := R11.out.cell 0 _ rfl
    have p1_1 := R11.out.cell 1 _ rfl
    have p2_1 := R11.out.cell 2 _ rfl
    have p3_1 := R11.out.cell 3 _ rfl
    have p4_1 := R11.out.cell 4 _ rfl
    have p5_1 := R11.out.cell 5 _ rfl
    have p6_1 := R11.out.cell 6 _ rfl
    go_wp2_with fail
    refine (C2.out _ HB11.out).mono ?_
    rintro e y2 ⟨rfl, b2⟩
    have HB12 := Lib.hid (below_link HB11.out b2 HB11.out.size)
    have R12 := Lib.hid (R11.out.below b2)
    clear p0_1 p1_1 p2_1 p3_1 p4_1 p5_1 p6_1
    clear b2
    have p0_2 := R12.out.cell 0 _ rfl
    have p1_2 := R12.out.cell 1 _ rfl
    have p2_2 := R12.out.cell 2 _ rfl
    have p3_2 := R12.out.cell 3 _ rfl
    have p4_2 := R12.out.cell 4 _ rfl
    have p5_2 := R12.out.cell 5 _ rfl
    have p6_2 := R12.out.cell 6 _ rfl
    go_wp2_with fail
    refine (C3.out _ HB12.out).mono ?_
    rintro e y3 ⟨rfl, b3⟩
    have HB13 := Lib.hid (below_link HB12.out b3 HB12.out.size)
    have R13 := Lib.hid (R12.out.below b3)
    clear p0_2 p1_2 p2_2 p3_2 p4_2 p5_2 p6_2
    clear b3
    have p0_3 := R13.out.cell 0 _ rfl
    have p1_3 := R13.out.cell 1 _ rfl
    have p2_3 := R13.out.cell 2 _ rfl
    have p3_3 := R13.out.cell 3 _ rfl
    have p4_3 := R13.out.cell 4 _ rfl
    have p5_3 := R13.out.cell 5 _ rfl
    have p6_3 := R13.out.cell 6 _ rfl
    go_wp2_with fail
    go_ret
    exact ⟨by rw [Hf.out]; rfl, HB13.out⟩
  have g7 := decide_eq_true h7
  have Hf := Lib.hid (Hyes.out ⟨h0, h1, h4, h5, h6, h7, h2, h3⟩)
  clear Hno Hyes h0 h1 h2 h3
  go_enter Tryz.func37, Tryz.ntmps37
  go_wp2_with fail
  rw [← Hw1.out]
  refine (C0.out _ HB1.out).mono ?_
  rintro e y0 ⟨rfl, b0⟩
  have HB10 := Lib.hid (below_link HB1.out b0 HB1.out.size)
  have R10 := Lib.hid (R1.out.below b0)
  clear b0
  have p0_0 := R10.out.cell 0 _ rfl
  have p1_0 := R10.out.cell 1 _ rfl
  have p2_0 := R10.out.cell 2 _ rfl
  have p3_0 := R10.out.cell 3 _ rfl
  have p4_0 := R10.out.cell 4 _ rfl
  have p5_0 := R10.out.cell 5 _ rfl
  have p6_0 := R10.out.cell 6 _ rfl
  go_wp2_with fail
  refine (C1.out _ HB10.out).mono ?_
  rintro e y1 ⟨rfl, b1⟩
  have HB11 := Lib.hid (below_link HB10.out b1 HB10.out.size)
  have R11 := Lib.hid (R10.out.below b1)
  clear p0_0 p1_0 p2_0 p3_0 p4_0 p5_0 p6_0
  clear b1
  have p0_1 := R11.out.cell 0 _ rfl
  have p1_1 := R11.out.cell 1 _ rfl
  have p2_1 := R11.out.cell 2 _ rfl
  have p3_1 := R11.out.cell 3 _ rfl
  have p4_1 := R11.out.cell 4 _ rfl
  have p5_1 := R11.out.cell 5 _ rfl
  have p6_1 := R11.out.cell 6 _ rfl
  go_wp2_with fail
  refine (C2.out _ HB11.out).mono ?_
  rintro e y2 ⟨rfl, b2⟩
  have HB12 := Lib.hid (below_link HB11.out b2 HB11.out.size)
  have R12 := Lib.hid (R11.out.below b2)
  clear p0_1 p1_1 p2_1 p3_1 p4_1 p5_1 p6_1
  clear b2
  have p0_2 := R12.out.cell 0 _ rfl
  have p1_2 := R12.out.cell 1 _ rfl
  have p2_2 := R12.out.cell 2 _ rfl
  have p3_2 := R12.out.cell 3 _ rfl
  have p4_2 := R12.out.cell 4 _ rfl
  have p5_2 := R12.out.cell 5 _ rfl
  have p6_2 := R12.out.cell 6 _ rfl
  go_wp2_with fail
  refine (C3.out _ HB12.out).mono ?_
  rintro e y3 ⟨rfl, b3⟩
  have HB13 := Lib.hid (below_link HB12.out b3 HB12.out.size)
  have R13 := Lib.hid (R12.out.below b3)
  clear p0_2 p1_2 p2_2 p3_2 p4_2 p5_2 p6_2
  clear b3
  have p0_3 := R13.out.cell 0 _ rfl
  have p1_3 := R13.out.cell 1 _ rfl
  have p2_3 := R13.out.cell 2 _ rfl
  have p3_3 := R13.out.cell 3 _ rfl
  have p4_3 := R13.out.cell 4 _ rfl
  have p5_3 := R13.out.cell 5 _ rfl
  have p6_3 := R13.out.cell 6 _ rfl
  go_wp2_with fail
  go_ret
  exact ⟨by rw [Hf.out]; rfl, HB13.out⟩
end Go.Proofs.YtcfbkfmkjggcdaaGreatDoor.pod
