/- spec.SamePod. Printed by gen/gen_samep.py. -/
import Derived.Test.YtcfbkfmkjggcdaaGA4
import Derived.Test.YtcfbkfmkjggcdaaGA7
import Derived.Test.YtcfbkfmkjggcdaaGA11
import Derived.Test.YtcfbkfmkjggcdaaGA2
import Derived.Test.YtcfbkfmkjggcdaaGA9
import Derived.Laws.Cover1
namespace Go.Proofs.Ytcfbkfmkjggcdaa.pod
open Go.ChangeShapes Go.WideShapes Go.ChangeAt Go.RowKit ty lab need
set_option linter.unusedVariables false
set_option maxRecDepth 100000 in
set_option maxHeartbeats 32000000 in
theorem spec_samePod (x y : Pod) (f1 f2 : Nat) (us vs : List Value) (w : World) (hx : LiesS w f1 us x.row) (hy : LiesS w f2 vs y.row) :
    Calls Try.prog 7 #[.agg us.toArray, .agg vs.toArray] w fun e w' => e = .returned (.bool (yes (x = y))) ∧ Below w.heap.size w w' := by
  obtain ⟨R, hR⟩ : ∃ R, yes (x = y) = R := ⟨_, rfl⟩
  rw [hR]
  have Hno : Hid (¬ x = y → R = false) := fun h => by rw [← hR]; exact yes_f h
  have Hyes : Hid (x = y → R = true) := fun h => by rw [← hR]; exact yes_t h
  clear hR
  obtain ⟨a0, a1, a2, a3, a4, a5, a6⟩ := x
  obtain ⟨b0, b1, b2, b3, b4, b5, b6⟩ := y
  obtain ⟨A1, c1, A5, c5, A6, c6, rfl, hwf, k1, m1, l1, k5, m5, l5, k6, m6, l6⟩ := Pod.opened hx
  obtain ⟨B1, d1, B5, d5, B6, d6, rfl, hwf2, k1_, m1_, r1, k5_, m5_, r5, k6_, m6_, r6⟩ := Pod.opened hy
  simp only at k1 m1 l1 k1_ m1_ r1 k5 m5 l5 k5_ m5_ r5 k6 m6 l6 k6_ m6_ r6
  obtain ⟨_, _, e1, _, _, f1, rfl, hka⟩ := els_of Tolerance.row_length l6
  injection e1 with e1 _ e2
  subst e1 e2
  obtain ⟨_, _, e1, _, _, f2, rfl, hkb⟩ := els_of Tolerance.row_length r6
  injection e1 with e1 _ e2
  subst e1 e2
  obtain ⟨w1, hw1⟩ : ∃ w1, w1 = (w.alloc (.cells #[.string a0, .slice A1 a1.length c1, .int .i64 a2, .int .i64 a3, .int .i64 a4, .slice A5 a5.length c5, .slice A6 a6.length c6] 33)).alloc (.cells #[.string b0, .slice B1 b1.length d1, .int .i64 b2, .int .i64 b3, .int .i64 b4, .slice B5 b5.length d5, .slice B6 b6.length d6] 33) := ⟨_, rfl⟩
  have hb1 : Below w.heap.size w w1 := by rw [hw1]; exact ((Below.refl _ _).alloc (Nat.le_refl _) _).alloc (by simp) _
  have ra1 := Lib.hid (show RowE 33 w1 w.heap.size [.string a0, .slice A1 a1.length c1, .int .i64 a2, .int .i64 a3, .int .i64 a4, .slice A5 a5.length c5, .slice A6 a6.length c6] by rw [hw1]; exact (RowE.new _ _ _).alloc)
  have rb1 := Lib.hid (show RowE 33 w1 (w.heap.size + 1) [.string b0, .slice B1 b1.length d1, .int .i64 b2, .int .i64 b3, .int .i64 b4, .slice B5 b5.length d5, .slice B6 b6.length d6] by
    have h := RowE.new 33 (w.alloc (.cells #[.string a0, .slice A1 a1.length c1, .int .i64 a2, .int .i64 a3, .int .i64 a4, .slice A5 a5.length c5, .slice A6 a6.length c6] 33)) [.string b0, .slice B1 b1.length d1, .int .i64 b2, .int .i64 b3, .int .i64 b4, .slice B5 b5.length d5, .slice B6 b6.length d6]
    rw [show (w.alloc (.cells #[.string a0, .slice A1 a1.length c1, .int .i64 a2, .int .i64 a3, .int .i64 a4, .slice A5 a5.length c5, .slice A6 a6.length c6] 33)).heap.size = w.heap.size + 1 by simp] at h
    rw [hw1]; exact h)
  have Hw1 := Lib.hid hw1
  have C1 := Lib.hid (fun w' (hb : Below w.heap.size w w') => spec_sameLE a1 b1 _ _ _ _ w' (l1.below hb) (r1.below hb))
  have C5 := Lib.hid (fun w' (hb : Below w.heap.size w w') => spec_sameNE a5 b5 _ _ _ _ w' (l5.below hb) (r5.below hb))
  have HB1 := Lib.hid hb1
  have HKa := Lib.hid hka
  have HKb := Lib.hid hkb
  have HM : Hid (a6.length ≤ maxLen) := Nat.le_trans k6 m6
  clear hx hy hwf hwf2 hb1 hw1 hka hkb k1 m1 l1 k1_ m1_ r1 k5 m5 l5 k5_ m5_ r5 k6 m6 l6 k6_ m6_ r6
  by_cases h0 : a0 = b0
  case neg =>
    have Hf := Lib.hid (Hno.out fun h => h0 (by cases h; rfl))
    clear Hno Hyes
    have n0 := same_no h0
    clear h0
    go_enter Try.func7, Try.ntmps7
    go_wp2_with fail
    rw [← Hw1.out]
    go_ret
    exact ⟨by rw [Hf.out]; rfl, HB1.out⟩
  have n0 := same_yes h0
  have E0 := Lib.hid h0
  clear h0
  by_cases h1 : a1 = b1
  case neg =>
    have Hf := Lib.hid (Hno.out fun h => h1 (by cases h; rfl))
    clear Hno Hyes
    rw [yes_f h1] at C1
    clear h1
    go_enter Try.func7, Try.ntmps7
    go_wp2_with fail
    rw [← Hw1.out]
    refine (C1.out _ HB1.out).mono ?_
    rintro e y1 ⟨rfl, q1⟩
    have HB11 := Lib.hid (below_link HB1.out q1 HB1.out.size)
    have ra11 := Lib.hid (ra1.out.below q1)
    have rb11 := Lib.hid (rb1.out.below q1)
    clear q1
    have p0_1 := ra11.out.cell 0 _ rfl
    have s0_1 := rb11.out.cell 0 _ rfl
    have p1_1 := ra11.out.cell 1 _ rfl
    have s1_1 := rb11.out.cell 1 _ rfl
    have p2_1 := ra11.out.cell 2 _ rfl
    have s2_1 := rb11.out.cell 2 _ rfl
    have p3_1 := ra11.out.cell 3 _ rfl
    have s3_1 := rb11.out.cell 3 _ rfl
    have p4_1 := ra11.out.cell 4 _ rfl
    have s4_1 := rb11.out.cell 4 _ rfl
    have p5_1 := ra11.out.cell 5 _ rfl
    have s5_1 := rb11.out.cell 5 _ rfl
    have p6_1 := ra11.out.cell 6 _ rfl
    have s6_1 := rb11.out.cell 6 _ rfl
    go_wp2_with fail
    go_ret
    exact ⟨by rw [Hf.out]; rfl, HB11.out⟩
  rw [yes_t h1] at C1
  have E1 := Lib.hid h1
  clear h1
  by_cases h2 : a2 = b2
  case neg =>
    have Hf := Lib.hid (Hno.out fun h => h2 (by cases h; rfl))
    clear Hno Hyes
    have n2 : (a2 != b2) = true := bne_iff_ne.2 h2
    have o2 : (a2 == b2) = false := beq_eq_false_iff_ne.2 h2
    clear h2
    go_enter Try.func7, Try.ntmps7
    go_wp2_with fail
    rw [← Hw1.out]
    refine (C1.out _ HB1.out).mono ?_
    rintro e y1 ⟨rfl, q1⟩
    have HB11 := Lib.hid (below_link HB1.out q1 HB1.out.size)
    have ra11 := Lib.hid (ra1.out.below q1)
    have rb11 := Lib.hid (rb1.out.below q1)
    clear q1
    have p0_1 := ra11.out.cell 0 _ rfl
    have s0_1 := rb11.out.cell 0 _ rfl
    have p1_1 := ra11.out.cell 1 _ rfl
    have s1_1 := rb11.out.cell 1 _ rfl
    have p2_1 := ra11.out.cell 2 _ rfl
    have s2_1 := rb11.out.cell 2 _ rfl
    have p3_1 := ra11.out.cell 3 _ rfl
    have s3_1 := rb11.out.cell 3 _ rfl
    have p4_1 := ra11.out.cell 4 _ rfl
    have s4_1 := rb11.out.cell 4 _ rfl
    have p5_1 := ra11.out.cell 5 _ rfl
    have s5_1 := rb11.out.cell 5 _ rfl
    have p6_1 := ra11.out.cell 6 _ rfl
    have s6_1 := rb11.out.cell 6 _ rfl
    go_wp2_with fail
    go_ret
    exact ⟨by rw [Hf.out]; rfl, HB11.out⟩
  have n2 : (a2 != b2) = false := by rw [h2]; exact bne_self_eq_false _
  have o2 : (a2 == b2) = true := beq_iff_eq.2 h2
  have E2 := Lib.hid h2
  clear h2
  by_cases h3 : a3 = b3
  case neg =>
    have Hf := Lib.hid (Hno.out fun h => h3 (by cases h; rfl))
    clear Hno Hyes
    have n3 : (a3 != b3) = true := bne_iff_ne.2 h3
    have o3 : (a3 == b3) = false := beq_eq_false_iff_ne.2 h3
    clear h3
    go_enter Try.func7, Try.ntmps7
    go_wp2_with fail
    rw [← Hw1.out]
    refine (C1.out _ HB1.out).mono ?_
    rintro e y1 ⟨rfl, q1⟩
    have HB11 := Lib.hid (below_link HB1.out q1 HB1.out.size)
    have ra11 := Lib.hid (ra1.out.below q1)
    have rb11 := Lib.hid (rb1.out.below q1)
    clear q1
    have p0_1 := ra11.out.cell 0 _ rfl
    have s0_1 := rb11.out.cell 0 _ rfl
    have p1_1 := ra11.out.cell 1 _ rfl
    have s1_1 := rb11.out.cell 1 _ rfl
    have p2_1 := ra11.out.cell 2 _ rfl
    have s2_1 := rb11.out.cell 2 _ rfl
    have p3_1 := ra11.out.cell 3 _ rfl
    have s3_1 := rb11.out.cell 3 _ rfl
    have p4_1 := ra11.out.cell 4 _ rfl
    have s4_1 := rb11.out.cell 4 _ rfl
    have p5_1 := ra11.out.cell 5 _ rfl
    have s5_1 := rb11.out.cell 5 _ rfl
    have p6_1 := ra11.out.cell 6 _ rfl
    have s6_1 := rb11.out.cell 6 _ rfl
    go_wp2_with fail
    go_ret
    exact ⟨by rw [Hf.out]; rfl, HB11.out⟩
  have n3 : (a3 != b3) = false := by rw [h3]; exact bne_self_eq_false _
  have o3 : (a3 == b3) = true := beq_iff_eq.2 h3
  have E3 := Lib.hid h3
  clear h3
  by_cases h4 : a4 = b4
  case neg =>
    have Hf := Lib.hid (Hno.out fun h => h4 (by cases h; rfl))
    clear Hno Hyes
    have n4 : (a4 != b4) = true := bne_iff_ne.2 h4
    have o4 : (a4 == b4) = false := beq_eq_false_iff_ne.2 h4
    clear h4
    go_enter Try.func7, Try.ntmps7
    go_wp2_with fail
    rw [← Hw1.out]
    refine (C1.out _ HB1.out).mono ?_
    rintro e y1 ⟨rfl, q1⟩
    have HB11 := Lib.hid (below_link HB1.out q1 HB1.out.size)
    have ra11 := Lib.hid (ra1.out.below q1)
    have rb11 := Lib.hid (rb1.out.below q1)
    clear q1
    have p0_1 := ra11.out.cell 0 _ rfl
    have s0_1 := rb11.out.cell 0 _ rfl
    have p1_1 := ra11.out.cell 1 _ rfl
    have s1_1 := rb11.out.cell 1 _ rfl
    have p2_1 := ra11.out.cell 2 _ rfl
    have s2_1 := rb11.out.cell 2 _ rfl
    have p3_1 := ra11.out.cell 3 _ rfl
    have s3_1 := rb11.out.cell 3 _ rfl
    have p4_1 := ra11.out.cell 4 _ rfl
    have s4_1 := rb11.out.cell 4 _ rfl
    have p5_1 := ra11.out.cell 5 _ rfl
    have s5_1 := rb11.out.cell 5 _ rfl
    have p6_1 := ra11.out.cell 6 _ rfl
    have s6_1 := rb11.out.cell 6 _ rfl
    go_wp2_with fail
    go_ret
    exact ⟨by rw [Hf.out]; rfl, HB11.out⟩
  have n4 : (a4 != b4) = false := by rw [h4]; exact bne_self_eq_false _
  have o4 : (a4 == b4) = true := beq_iff_eq.2 h4
  have E4 := Lib.hid h4
  clear h4
  by_cases h5 : a5 = b5
  case neg =>
    have Hf := Lib.hid (Hno.out fun h => h5 (by cases h; rfl))
    clear Hno Hyes
    rw [yes_f h5] at C5
    clear h5
    go_enter Try.func7, Try.ntmps7
    go_wp2_with fail
    rw [← Hw1.out]
    refine (C1.out _ HB1.out).mono ?_
    rintro e y1 ⟨rfl, q1⟩
    have HB11 := Lib.hid (below_link HB1.out q1 HB1.out.size)
    have ra11 := Lib.hid (ra1.out.below q1)
    have rb11 := Lib.hid (rb1.out.below q1)
    clear q1
    have p0_1 := ra11.out.cell 0 _ rfl
    have s0_1 := rb11.out.cell 0 _ rfl
    have p1_1 := ra11.out.cell 1 _ rfl
    have s1_1 := rb11.out.cell 1 _ rfl
    have p2_1 := ra11.out.cell 2 _ rfl
    have s2_1 := rb11.out.cell 2 _ rfl
    have p3_1 := ra11.out.cell 3 _ rfl
    have s3_1 := rb11.out.cell 3 _ rfl
    have p4_1 := ra11.out.cell 4 _ rfl
    have s4_1 := rb11.out.cell 4 _ rfl
    have p5_1 := ra11.out.cell 5 _ rfl
    have s5_1 := rb11.out.cell 5 _ rfl
    have p6_1 := ra11.out.cell 6 _ rfl
    have s6_1 := rb11.out.cell 6 _ rfl
    go_wp2_with fail
    refine (C5.out _ HB11.out).mono ?_
    rintro e y5 ⟨rfl, q5⟩
    have HB15 := Lib.hid (below_link HB11.out q5 HB11.out.size)
    have ra15 := Lib.hid (ra11.out.below q5)
    have rb15 := Lib.hid (rb11.out.below q5)
    clear p0_1 s0_1 p1_1 s1_1 p2_1 s2_1 p3_1 s3_1 p4_1 s4_1 p5_1 s5_1 p6_1 s6_1
    clear q5
    have p0_5 := ra15.out.cell 0 _ rfl
    have s0_5 := rb15.out.cell 0 _ rfl
    have p1_5 := ra15.out.cell 1 _ rfl
    have s1_5 := rb15.out.cell 1 _ rfl
    have p2_5 := ra15.out.cell 2 _ rfl
    have s2_5 := rb15.out.cell 2 _ rfl
    have p3_5 := ra15.out.cell 3 _ rfl
    have s3_5 := rb15.out.cell 3 _ rfl
    have p4_5 := ra15.out.cell 4 _ rfl
    have s4_5 := rb15.out.cell 4 _ rfl
    have p5_5 := ra15.out.cell 5 _ rfl
    have s5_5 := rb15.out.cell 5 _ rfl
    have p6_5 := ra15.out.cell 6 _ rfl
    have s6_5 := rb15.out.cell 6 _ rfl
    go_wp2_with fail
    go_ret
    exact ⟨by rw [Hf.out]; rfl, HB15.out⟩
  rw [yes_t h5] at C5
  have E5 := Lib.hid h5
  clear h5
  by_cases h6 : a6.length = b6.length
  case neg =>
    have Hf := Lib.hid (Hno.out fun h => h6 (by cases h; rfl))
    clear Hno Hyes
    have n6 : ((a6.length : Int) != (b6.length : Int)) = true := bne_iff_ne.2 (by omega)
    clear h6
    go_enter Try.func7, Try.ntmps7
    go_wp2_with fail
    rw [← Hw1.out]
    refine (C1.out _ HB1.out).mono ?_
    rintro e y1 ⟨rfl, q1⟩
    have HB11 := Lib.hid (below_link HB1.out q1 HB1.out.size)
    have ra11 := Lib.hid (ra1.out.below q1)
    have rb11 := Lib.hid (rb1.out.below q1)
    clear q1
    have p0_1 := ra11.out.cell 0 _ rfl
    have s0_1 := rb11.out.cell 0 _ rfl
    have p1_1 := ra11.out.cell 1 _ rfl
    have s1_1 := rb11.out.cell 1 _ rfl
    have p2_1 := ra11.out.cell 2 _ rfl
    have s2_1 := rb11.out.cell 2 _ rfl
    have p3_1 := ra11.out.cell 3 _ rfl
    have s3_1 := rb11.out.cell 3 _ rfl
    have p4_1 := ra11.out.cell 4 _ rfl
    have s4_1 := rb11.out.cell 4 _ rfl
    have p5_1 := ra11.out.cell 5 _ rfl
    have s5_1 := rb11.out.cell 5 _ rfl
    have p6_1 := ra11.out.cell 6 _ rfl
    have s6_1 := rb11.out.cell 6 _ rfl
    go_wp2_with fail
    refine (C5.out _ HB11.out).mono ?_
    rintro e y5 ⟨rfl, q5⟩
    have HB15 := Lib.hid (below_link HB11.out q5 HB11.out.size)
    have ra15 := Lib.hid (ra11.out.below q5)
    have rb15 := Lib.hid (rb11.out.below q5)
    clear p0_1 s0_1 p1_1 s1_1 p2_1 s2_1 p3_1 s3_1 p4_1 s4_1 p5_1 s5_1 p6_1 s6_1
    clear q5
    have p0_5 := ra15.out.cell 0 _ rfl
    have s0_5 := rb15.out.cell 0 _ rfl
    have p1_5 := ra15.out.cell 1 _ rfl
    have s1_5 := rb15.out.cell 1 _ rfl
    have p2_5 := ra15.out.cell 2 _ rfl
    have s2_5 := rb15.out.cell 2 _ rfl
    have p3_5 := ra15.out.cell 3 _ rfl
    have s3_5 := rb15.out.cell 3 _ rfl
    have p4_5 := ra15.out.cell 4 _ rfl
    have s4_5 := rb15.out.cell 4 _ rfl
    have p5_5 := ra15.out.cell 5 _ rfl
    have s5_5 := rb15.out.cell 5 _ rfl
    have p6_5 := ra15.out.cell 6 _ rfl
    have s6_5 := rb15.out.cell 6 _ rfl
    go_wp2_with fail
    go_ret
    exact ⟨by rw [Hf.out]; rfl, HB15.out⟩
  have EL := Lib.hid h6
  rw [← h6] at rb1 Hw1 ⊢
  clear h6
  have n6 : ((a6.length : Int) != (a6.length : Int)) = false := bne_self_eq_false _
  go_enter Try.func7, Try.ntmps7
  go_wp2_with fail
  rw [← Hw1.out]
  refine (C1.out _ HB1.out).mono ?_
  rintro e y1 ⟨rfl, q1⟩
  have HB11 := Lib.hid (below_link HB1.out q1 HB1.out.size)
  have ra11 := Lib.hid (ra1.out.below q1)
  have rb11 := Lib.hid (rb1.out.below q1)
  clear q1
  have p0_1 := ra11.out.cell 0 _ rfl
  have s0_1 := rb11.out.cell 0 _ rfl
  have p1_1 := ra11.out.cell 1 _ rfl
  have s1_1 := rb11.out.cell 1 _ rfl
  have p2_1 := ra11.out.cell 2 _ rfl
  have s2_1 := rb11.out.cell 2 _ rfl
  have p3_1 := ra11.out.cell 3 _ rfl
  have s3_1 := rb11.out.cell 3 _ rfl
  have p4_1 := ra11.out.cell 4 _ rfl
  have s4_1 := rb11.out.cell 4 _ rfl
  have p5_1 := ra11.out.cell 5 _ rfl
  have s5_1 := rb11.out.cell 5 _ rfl
  have p6_1 := ra11.out.cell 6 _ rfl
  have s6_1 := rb11.out.cell 6 _ rfl
  go_wp2_with fail
  refine (C5.out _ HB11.out).mono ?_
  rintro e y5 ⟨rfl, q5⟩
  have HB15 := Lib.hid (below_link HB11.out q5 HB11.out.size)
  have ra15 := Lib.hid (ra11.out.below q5)
  have rb15 := Lib.hid (rb11.out.below q5)
  clear p0_1 s0_1 p1_1 s1_1 p2_1 s2_1 p3_1 s3_1 p4_1 s4_1 p5_1 s5_1 p6_1 s6_1
  clear q5
  have p0_5 := ra15.out.cell 0 _ rfl
  have s0_5 := rb15.out.cell 0 _ rfl
  have p1_5 := ra15.out.cell 1 _ rfl
  have s1_5 := rb15.out.cell 1 _ rfl
  have p2_5 := ra15.out.cell 2 _ rfl
  have s2_5 := rb15.out.cell 2 _ rfl
  have p3_5 := ra15.out.cell 3 _ rfl
  have s3_5 := rb15.out.cell 3 _ rfl
  have p4_5 := ra15.out.cell 4 _ rfl
  have s4_5 := rb15.out.cell 4 _ rfl
  have p5_5 := ra15.out.cell 5 _ rfl
  have s5_5 := rb15.out.cell 5 _ rfl
  have p6_5 := ra15.out.cell 6 _ rfl
  have s6_5 := rb15.out.cell 6 _ rfl
  go_wp2_with fail
  clear p0_5 s0_5 p1_5 s1_5 p2_5 s2_5 p3_5 s3_5 p4_5 s4_5 p5_5 s5_5 p6_5 s6_5
  go_loopw [5] (fun i wr => ∃ j : Nat, j ≤ a6.length ∧ i = .int .i64 j ∧ Hid (∀ q (h1 : q < a6.length) (h2 : q < b6.length), q < j → a6[q] = b6[q]) ∧ ∃ n, wr = y5.drewN n) (fun i _ => a6.length - (intOf i).toNat)
  case atStart => exact ⟨0, Nat.zero_le _, rfl, fun _ _ _ h => by omega, 0, rfl⟩
  case round =>
    obtain ⟨j, hj, rfl, hall, n0, hwr⟩ := hrel
    have Hw : Hid (∃ n, wr = y5.drewN n) := ⟨n0, hwr⟩
    have s1 : wr.cell? ⟨w.heap.size, 6, none⟩ = some (.slice A6 a6.length c6) := by rw [hwr]; exact ra15.out.cell 6 _ rfl
    have s2 : wr.cell? ⟨w.heap.size + 1, 6, none⟩ = some (.slice B6 a6.length d6) := by rw [hwr]; exact rb15.out.cell 6 _ rfl
    have hmx := HM.out
    unfold maxLen at hmx
    by_cases hlt : j < a6.length
    · have hlb : j < b6.length := by rw [← EL.out]; exact hlt
      obtain ⟨g1, o1, hA1, hg1, us1, hus1, hcc1, hls1⟩ := (HKa.out.below HB15.out).get hlt
      obtain ⟨g2, o2, hA2, hg2, us2, hus2, hcc2, hls2⟩ := (HKb.out.below HB15.out).get hlb
      obtain ⟨rfl, hwf1⟩ := Tolerance.opened hls1
      obtain ⟨rfl, hwf2⟩ := Tolerance.opened hls2
      have q0 : wr.cell? ⟨g1, o1 + j * 4, none⟩ = some (.string a6[j].key) := by rw [hwr]; exact hcc1 0 _ rfl
      have q1 : wr.cell? ⟨g1, o1 + j * 4 + 1, none⟩ = some (.bool a6[j].equal) := by rw [hwr]; exact hcc1 1 _ rfl
      have q2 : wr.cell? ⟨g1, o1 + j * 4 + 2, none⟩ = some (.string a6[j].value) := by rw [hwr]; exact hcc1 2 _ rfl
      have q3 : wr.cell? ⟨g1, o1 + j * 4 + 3, none⟩ = some (.int .i64 a6[j].effect) := by rw [hwr]; exact hcc1 3 _ rfl
      have r0 : wr.cell? ⟨g2, o2 + j * 4, none⟩ = some (.string b6[j].key) := by rw [hwr]; exact hcc2 0 _ rfl
      have r1 : wr.cell? ⟨g2, o2 + j * 4 + 1, none⟩ = some (.bool b6[j].equal) := by rw [hwr]; exact hcc2 1 _ rfl
      have r2 : wr.cell? ⟨g2, o2 + j * 4 + 2, none⟩ = some (.string b6[j].value) := by rw [hwr]; exact hcc2 2 _ rfl
      have r3 : wr.cell? ⟨g2, o2 + j * 4 + 3, none⟩ = some (.int .i64 b6[j].effect) := by rw [hwr]; exact hcc2 3 _ rfl
      subst hA1 hA2
      have hj0 : (0 : Int) ≤ (j : Int) := by omega
      have hjn : (j : Int) < (a6.length : Int) := by omega
      clear hls1 hls2 hus1 hus2 hcc1 hcc2 hwf1 hwf2 hwr hg1 hg2
      have Hno2 := Lib.hid (fun (h : ¬ a6[j] = b6[j]) => Hno.out fun h3 => h (by cases h3; rfl))
      have Hnx := Lib.hid (fun (h : a6[j] = b6[j]) => show ∀ q (h1 : q < a6.length) (h2 : q < b6.length), q < j + 1 → a6[q] = b6[q] from fun q h1 h2 h3 => by
        by_cases e : q = j
        · subst e; exact h
        · exact hall.out q h1 h2 (by omega))
      clear hall
      generalize a6[j] = x at q0 q1 q2 q3 Hno2 Hnx
      generalize b6[j] = y at r0 r1 r2 r3 Hno2 Hnx
      by_cases h0 : x.key = y.key
      case neg =>
        have Hf := Lib.hid (Hno2.out fun h => h0 (by rw [h]))
        have d0 := same_no h0
        clear Hno2 Hnx Hno Hyes h0
        obtain ⟨n1, hn1⟩ := Hw.out
        have HZ := Lib.hid (show Below w.heap.size w wr by rw [hn1]; exact below_drewN HB15.out _)
        clear hn1
        go_wp2_with fail
        go_quiet (fail)
        go_wp2_with fail
        go_ret
        exact ⟨by rw [Hf.out]; rfl, below_drewN HZ.out _⟩
      have d0 := same_yes h0
      by_cases h1 : x.equal = y.equal
      case neg =>
        have Hf := Lib.hid (Hno2.out fun h => h1 (by rw [h]))
        have d1 : (x.equal == y.equal) = false := beq_eq_false_iff_ne.2 h1
        clear Hno2 Hnx Hno Hyes h0 h1
        obtain ⟨n1, hn1⟩ := Hw.out
        have HZ := Lib.hid (show Below w.heap.size w wr by rw [hn1]; exact below_drewN HB15.out _)
        clear hn1
        go_wp2_with fail
        go_quiet (fail)
        go_wp2_with fail
        go_ret
        exact ⟨by rw [Hf.out]; rfl, below_drewN HZ.out _⟩
      have d1 : (x.equal == y.equal) = true := beq_iff_eq.2 h1
      by_cases h2 : x.value = y.value
      case neg =>
        have Hf := Lib.hid (Hno2.out fun h => h2 (by rw [h]))
        have d2 := same_no h2
        clear Hno2 Hnx Hno Hyes h0 h1 h2
        obtain ⟨n1, hn1⟩ := Hw.out
        have HZ := Lib.hid (show Below w.heap.size w wr by rw [hn1]; exact below_drewN HB15.out _)
        clear hn1
        go_wp2_with fail
        go_quiet (fail)
        go_wp2_with fail
        go_ret
        exact ⟨by rw [Hf.out]; rfl, below_drewN HZ.out _⟩
      have d2 := same_yes h2
      by_cases h3 : x.effect = y.effect
      case neg =>
        have Hf := Lib.hid (Hno2.out fun h => h3 (by rw [h]))
        have d3 : (x.effect == y.effect) = false := beq_eq_false_iff_ne.2 h3
        clear Hno2 Hnx Hno Hyes h0 h1 h2 h3
        obtain ⟨n1, hn1⟩ := Hw.out
        have HZ := Lib.hid (show Below w.heap.size w wr by rw [hn1]; exact below_drewN HB15.out _)
        clear hn1
        go_wp2_with fail
        go_quiet (fail)
        go_wp2_with fail
        go_ret
        exact ⟨by rw [Hf.out]; rfl, below_drewN HZ.out _⟩
      have d3 : (x.effect == y.effect) = true := beq_iff_eq.2 h3
      have Hn := Lib.hid (Hnx.out (by cases x; cases y; simp only at *; subst h0; subst h1; subst h2; subst h3; rfl))
      clear Hno2 Hnx Hno Hyes h0 h1 h2 h3
      go_wp2_with fail
      go_quiet (fail)
      go_wp2_with fail
      go_roundw
      case rel => exact ⟨j + 1, by omega, by go_num, Hn.out, drew_of Hw.out _⟩
      case measure => simp [intOf]; omega
    · obtain rfl : j = a6.length := by omega
      have hL : a6 = b6 := List.ext_getElem EL.out (fun i h1 h2 => hall.out i h1 h2 h1)
      have Hf := Lib.hid (Hyes.out (by rw [E0.out, E1.out, E2.out, E3.out, E4.out, E5.out, hL]))
      have HZ := Lib.hid (show Below w.heap.size w wr by rw [hwr]; exact below_drewN HB15.out _)
      clear hL hall hwr Hno Hyes
      go_wp2_with fail
      go_ret
      exact ⟨by rw [Hf.out]; rfl, HZ.out⟩
end Go.Proofs.Ytcfbkfmkjggcdaa.pod
