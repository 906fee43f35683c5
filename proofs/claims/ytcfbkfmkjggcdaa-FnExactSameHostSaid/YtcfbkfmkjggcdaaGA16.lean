/- Merged: SameHostI OpTaintS TrHost OpHost. -/
import Derived.Test.YtcfbkfmkjggcdaaGA14
import Derived.Test.YtcfbkfmkjggcdaaGA15
import Derived.Test.YtcfbkfmkjggcdaaGA2
import Derived.Test.YtcfbkfmkjggcdaaGA9
import Derived.Laws.Cover1
import Derived.Test.YtcfbkfmkjggcdaaGA3
namespace Go.Proofs.Ytcfbkfmkjggcdaa.pod
open Go.ChangeShapes Go.WideShapes Go.ChangeAt Go.RowKit ty lab
set_option linter.unusedVariables false
set_option maxRecDepth 100000 in
set_option maxHeartbeats 32000000 in
theorem impl_sameHost (x y : Host) (f1 f2 : Nat) (us vs : List Value) (w : World) (hx : LiesS w f1 us x.row) (hy : LiesS w f2 vs y.row) :
    Calls Try.prog 14 #[.agg us.toArray, .agg vs.toArray] w fun e w' => e = .returned (.bool (yes (x = y))) ∧ Below w.heap.size w w' := by
  obtain ⟨R, hR⟩ : ∃ R, yes (x = y) = R := ⟨_, rfl⟩
  rw [hR]
  have Hno : Hid (¬ x = y → R = false) := fun h => by rw [← hR]; exact yes_f h
  have Hyes : Hid (x = y → R = true) := fun h => by rw [← hR]; exact yes_t h
  clear hR
  obtain ⟨a0, a1, a2, a3, a4, a5⟩ := x
  obtain ⟨b0, b1, b2, b3, b4, b5⟩ := y
  obtain ⟨A1, c1, A5, c5, rfl, hwf, k1, m1, l1, k5, m5, l5⟩ := Host.opened hx
  obtain ⟨B1, d1, B5, d5, rfl, hwf2, k1_, m1_, r1, k5_, m5_, r5⟩ := Host.opened hy
  simp only at k1 m1 l1 k1_ m1_ r1 k5 m5 l5 k5_ m5_ r5
  obtain ⟨w1, hw1⟩ : ∃ w1, w1 = (w.alloc (.cells #[.string a0, .slice A1 a1.length c1, .int .i64 a2, .int .i64 a3, .int .i64 a4, .slice A5 a5.length c5] 43)).alloc (.cells #[.string b0, .slice B1 b1.length d1, .int .i64 b2, .int .i64 b3, .int .i64 b4, .slice B5 b5.length d5] 43) := ⟨_, rfl⟩
  have hb1 : Below w.heap.size w w1 := by rw [hw1]; exact ((Below.refl _ _).alloc (Nat.le_refl _) _).alloc (by simp) _
  have ra1 := Lib.hid (show RowE 43 w1 w.heap.size [.string a0, .slice A1 a1.length c1, .int .i64 a2, .int .i64 a3, .int .i64 a4, .slice A5 a5.length c5] by rw [hw1]; exact (RowE.new _ _ _).alloc)
  have rb1 := Lib.hid (show RowE 43 w1 (w.heap.size + 1) [.string b0, .slice B1 b1.length d1, .int .i64 b2, .int .i64 b3, .int .i64 b4, .slice B5 b5.length d5] by
    have h := RowE.new 43 (w.alloc (.cells #[.string a0, .slice A1 a1.length c1, .int .i64 a2, .int .i64 a3, .int .i64 a4, .slice A5 a5.length c5] 43)) [.string b0, .slice B1 b1.length d1, .int .i64 b2, .int .i64 b3, .int .i64 b4, .slice B5 b5.length d5]
    rw [show (w.alloc (.cells #[.string a0, .slice A1 a1.length c1, .int .i64 a2, .int .i64 a3, .int .i64 a4, .slice A5 a5.length c5] 43)).heap.size = w.heap.size + 1 by simp] at h
    rw [hw1]; exact h)
  have Hw1 := Lib.hid hw1
  have C1 := Lib.hid (fun w' (hb : Below w.heap.size w w') => impl_sameLEh a1 b1 _ _ _ _ w' (l1.below hb) (r1.below hb))
  have C5 := Lib.hid (fun w' (hb : Below w.heap.size w w') => impl_eqsTaint a5 b5 _ _ _ _ w' (l5.below hb) (r5.below hb))
  have HB1 := Lib.hid hb1
  clear hx hy hwf hwf2 hb1 hw1 k1 m1 l1 k1_ m1_ r1 k5 m5 l5 k5_ m5_ r5
  by_cases h0 : a0 = b0
  case neg =>
    have Hf := Lib.hid (Hno.out fun h => h0 (by cases h; rfl))
    clear Hno Hyes
    have n0 := same_no h0
    clear h0
    go_enter Try.func14, Try.ntmps14
    go_wp2_with fail
    rw [← Hw1.out]
    go_ret
    exact ⟨by rw [Hf.out]; rfl, HB1.out⟩
  have n0 := same_yes h0
  have E0 := Lib.hid h0
  clear h0
  by_cases h1 : a1 = b1
  case neg =>
    have Hf := Lib.hid (Hno.out fun h => h1 (by cases h; rfl))
    clear Hno Hyes
    rw [yes_f h1] at C1
    clear h1
    go_enter Try.func14, Try.ntmps14
    go_wp2_with fail
    rw [← Hw1.out]
    refine (C1.out _ HB1.out).mono ?_
    rintro e y1 ⟨rfl, q1⟩
    have HB11 := Lib.hid (below_link HB1.out q1 HB1.out.size)
    have ra11 := Lib.hid (ra1.out.below q1)
    have rb11 := Lib.hid (rb1.out.below q1)
    clear q1
    have p0_1 := ra11.out.cell 0 _ rfl
    have s0_1 := rb11.out.cell 0 _ rfl
    have p1_1 := ra11.out.cell 1 _ rfl
    have s1_1 := rb11.out.cell 1 _ rfl
    have p2_1 := ra11.out.cell 2 _ rfl
    have s2_1 := rb11.out.cell 2 _ rfl
    have p3_1 := ra11.out.cell 3 _ rfl
    have s3_1 := rb11.out.cell 3 _ rfl
    have p4_1 := ra11.out.cell 4 _ rfl
    have s4_1 := rb11.out.cell 4 _ rfl
    have p5_1 := ra11.out.cell 5 _ rfl
    have s5_1 := rb11.out.cell 5 _ rfl
    go_wp2_with fail
    go_ret
    exact ⟨by rw [Hf.out]; rfl, HB11.out⟩
  rw [yes_t h1] at C1
  have E1 := Lib.hid h1
  clear h1
  by_cases h2 : a2 = b2
  case neg =>
    have Hf := Lib.hid (Hno.out fun h => h2 (by cases h; rfl))
    clear Hno Hyes
    have o2 : (a2 == b2) = false := beq_eq_false_iff_ne.2 h2
    clear h2
    go_enter Try.func14, Try.ntmps14
    go_wp2_with fail
    rw [← Hw1.out]
    refine (C1.out _ HB1.out).mono ?_
    rintro e y1 ⟨rfl, q1⟩
    have HB11 := Lib.hid (below_link HB1.out q1 HB1.out.size)
    have ra11 := Lib.hid (ra1.out.below q1)
    have rb11 := Lib.hid (rb1.out.below q1)
    clear q1
    have p0_1 := ra11.out.cell 0 _ rfl
    have s0_1 := rb11.out.cell 0 _ rfl
    have p1_1 := ra11.out.cell 1 _ rfl
    have s1_1 := rb11.out.cell 1 _ rfl
    have p2_1 := ra11.out.cell 2 _ rfl
    have s2_1 := rb11.out.cell 2 _ rfl
    have p3_1 := ra11.out.cell 3 _ rfl
    have s3_1 := rb11.out.cell 3 _ rfl
    have p4_1 := ra11.out.cell 4 _ rfl
    have s4_1 := rb11.out.cell 4 _ rfl
    have p5_1 := ra11.out.cell 5 _ rfl
    have s5_1 := rb11.out.cell 5 _ rfl
    go_wp2_with fail
    go_ret
    exact ⟨by rw [Hf.out]; rfl, HB11.out⟩
  have o2 : (a2 == b2) = true := beq_iff_eq.2 h2
  have E2 := Lib.hid h2
  clear h2
  by_cases h3 : a3 = b3
  case neg =>
    have Hf := Lib.hid (Hno.out fun h => h3 (by cases h; rfl))
    clear Hno Hyes
    have o3 : (a3 == b3) = false := beq_eq_false_iff_ne.2 h3
    clear h3
    go_enter Try.func14, Try.ntmps14
    go_wp2_with fail
    rw [← Hw1.out]
    refine (C1.out _ HB1.out).mono ?_
    rintro e y1 ⟨rfl, q1⟩
    have HB11 := Lib.hid (below_link HB1.out q1 HB1.out.size)
    have ra11 := Lib.hid (ra1.out.below q1)
    have rb11 := Lib.hid (rb1.out.below q1)
    clear q1
    have p0_1 := ra11.out.cell 0 _ rfl
    have s0_1 := rb11.out.cell 0 _ rfl
    have p1_1 := ra11.out.cell 1 _ rfl
    have s1_1 := rb11.out.cell 1 _ rfl
    have p2_1 := ra11.out.cell 2 _ rfl
    have s2_1 := rb11.out.cell 2 _ rfl
    have p3_1 := ra11.out.cell 3 _ rfl
    have s3_1 := rb11.out.cell 3 _ rfl
    have p4_1 := ra11.out.cell 4 _ rfl
    have s4_1 := rb11.out.cell 4 _ rfl
    have p5_1 := ra11.out.cell 5 _ rfl
    have s5_1 := rb11.out.cell 5 _ rfl
    go_wp2_with fail
    go_ret
    exact ⟨by rw [Hf.out]; rfl, HB11.out⟩
  have o3 : (a3 == b3) = true := beq_iff_eq.2 h3
  have E3 := Lib.hid h3
  clear h3
  by_cases h4 : a4 = b4
  case neg =>
    have Hf := Lib.hid (Hno.out fun h => h4 (by cases h; rfl))
    clear Hno Hyes
    have o4 : (a4 == b4) = false := beq_eq_false_iff_ne.2 h4
    clear h4
    go_enter Try.func14, Try.ntmps14
    go_wp2_with fail
    rw [← Hw1.out]
    refine (C1.out _ HB1.out).mono ?_
    rintro e y1 ⟨rfl, q1⟩
    have HB11 := Lib.hid (below_link HB1.out q1 HB1.out.size)
    have ra11 := Lib.hid (ra1.out.below q1)
    have rb11 := Lib.hid (rb1.out.below q1)
    clear q1
    have p0_1 := ra11.out.cell 0 _ rfl
    have s0_1 := rb11.out.cell 0 _ rfl
    have p1_1 := ra11.out.cell 1 _ rfl
    have s1_1 := rb11.out.cell 1 _ rfl
    have p2_1 := ra11.out.cell 2 _ rfl
    have s2_1 := rb11.out.cell 2 _ rfl
    have p3_1 := ra11.out.cell 3 _ rfl
    have s3_1 := rb11.out.cell 3 _ rfl
    have p4_1 := ra11.out.cell 4 _ rfl
    have s4_1 := rb11.out.cell 4 _ rfl
    have p5_1 := ra11.out.cell 5 _ rfl
    have s5_1 := rb11.out.cell 5 _ rfl
    go_wp2_with fail
    go_ret
    exact ⟨by rw [Hf.out]; rfl, HB11.out⟩
  have o4 : (a4 == b4) = true := beq_iff_eq.2 h4
  have E4 := Lib.hid h4
  clear h4
  by_cases h5 : a5 = b5
  case neg =>
    have Hf := Lib.hid (Hno.out fun h => h5 (by cases h; rfl))
    clear Hno Hyes
    rw [yes_f h5] at C5
    clear h5
    go_enter Try.func14, Try.ntmps14
    go_wp2_with fail
    rw [← Hw1.out]
    refine (C1.out _ HB1.out).mono ?_
    rintro e y1 ⟨rfl, q1⟩
    have HB11 := Lib.hid (below_link HB1.out q1 HB1.out.size)
    have ra11 := Lib.hid (ra1.out.below q1)
    have rb11 := Lib.hid (rb1.out.below q1)
    clear q1
    have p0_1 := ra11.out.cell 0 _ rfl
    have s0_1 := rb11.out.cell 0 _ rfl
    have p1_1 := ra11.out.cell 1 _ rfl
    have s1_1 := rb11.out.cell 1 _ rfl
    have p2_1 := ra11.out.cell 2 _ rfl
    have s2_1 := rb11.out.cell 2 _ rfl
    have p3_1 := ra11.out.cell 3 _ rfl
    have s3_1 := rb11.out.cell 3 _ rfl
    have p4_1 := ra11.out.cell 4 _ rfl
    have s4_1 := rb11.out.cell 4 _ rfl
    have p5_1 := ra11.out.cell 5 _ rfl
    have s5_1 := rb11.out.cell 5 _ rfl
    go_wp2_with fail
    refine (C5.out _ HB11.out).mono ?_
    rintro e y5 ⟨rfl, q5⟩
    have HB15 := Lib.hid (below_link HB11.out q5 HB11.out.size)
    have ra15 := Lib.hid (ra11.out.below q5)
    have rb15 := Lib.hid (rb11.out.below q5)
    clear p0_1 s0_1 p1_1 s1_1 p2_1 s2_1 p3_1 s3_1 p4_1 s4_1 p5_1 s5_1
    clear q5
    have p0_5 := ra15.out.cell 0 _ rfl
    have s0_5 := rb15.out.cell 0 _ rfl
    have p1_5 := ra15.out.cell 1 _ rfl
    have s1_5 := rb15.out.cell 1 _ rfl
    have p2_5 := ra15.out.cell 2 _ rfl
    have s2_5 := rb15.out.cell 2 _ rfl
    have p3_5 := ra15.out.cell 3 _ rfl
    have s3_5 := rb15.out.cell 3 _ rfl
    have p4_5 := ra15.out.cell 4 _ rfl
    have s4_5 := rb15.out.cell 4 _ rfl
    have p5_5 := ra15.out.cell 5 _ rfl
    have s5_5 := rb15.out.cell 5 _ rfl
    go_wp2_with fail
    go_ret
    exact ⟨by rw [Hf.out]; rfl, HB15.out⟩
  rw [yes_t h5] at C5
  have E5 := Lib.hid h5
  clear h5
  have Hf := Lib.hid (Hyes.out (by rw [E0.out, E1.out, E2.out, E3.out, E4.out, E5.out]))
  clear Hno Hyes
  go_enter Try.func14, Try.ntmps14
  go_wp2_with fail
  rw [← Hw1.out]
  refine (C1.out _ HB1.out).mono ?_
  rintro e y1 ⟨rfl, q1⟩
  have HB11 := Lib.hid (below_link HB1.out q1 HB1.out.size)
  have ra11 := Lib.hid (ra1.out.below q1)
  have rb11 := Lib.hid (rb1.out.below q1)
  clear q1
  have p0_1 := ra11.out.cell 0 _ rfl
  have s0_1 := rb11.out.cell 0 _ rfl
  have p1_1 := ra11.out.cell 1 _ rfl
  have s1_1 := rb11.out.cell 1 _ rfl
  have p2_1 := ra11.out.cell 2 _ rfl
  have s2_1 := rb11.out.cell 2 _ rfl
  have p3_1 := ra11.out.cell 3 _ rfl
  have s3_1 := rb11.out.cell 3 _ rfl
  have p4_1 := ra11.out.cell 4 _ rfl
  have s4_1 := rb11.out.cell 4 _ rfl
  have p5_1 := ra11.out.cell 5 _ rfl
  have s5_1 := rb11.out.cell 5 _ rfl
  go_wp2_with fail
  refine (C5.out _ HB11.out).mono ?_
  rintro e y5 ⟨rfl, q5⟩
  have HB15 := Lib.hid (below_link HB11.out q5 HB11.out.size)
  have ra15 := Lib.hid (ra11.out.below q5)
  have rb15 := Lib.hid (rb11.out.below q5)
  clear p0_1 s0_1 p1_1 s1_1 p2_1 s2_1 p3_1 s3_1 p4_1 s4_1 p5_1 s5_1
  clear q5
  have p0_5 := ra15.out.cell 0 _ rfl
  have s0_5 := rb15.out.cell 0 _ rfl
  have p1_5 := ra15.out.cell 1 _ rfl
  have s1_5 := rb15.out.cell 1 _ rfl
  have p2_5 := ra15.out.cell 2 _ rfl
  have s2_5 := rb15.out.cell 2 _ rfl
  have p3_5 := ra15.out.cell 3 _ rfl
  have s3_5 := rb15.out.cell 3 _ rfl
  have p4_5 := ra15.out.cell 4 _ rfl
  have s4_5 := rb15.out.cell 4 _ rfl
  have p5_5 := ra15.out.cell 5 _ rfl
  have s5_5 := rb15.out.cell 5 _ rfl
  go_wp2_with fail
  go_ret
  exact ⟨by rw [Hf.out]; rfl, HB15.out⟩
end Go.Proofs.Ytcfbkfmkjggcdaa.pod
namespace Go.Proofs.Ytcfbkfmkjggcdaa.ty
open Go.ChangeShapes Go.WideShapes Go.ChangeAt Go.RowKit
set_option linter.unusedVariables false

instance : Inhabited Taint := ⟨⟨⟨#[]⟩, ⟨#[]⟩, 0⟩⟩
theorem csTaint : Try.prog.cellsOf 92 = 3 := by kernel_rfl
theorem csTaint_string : Try.prog.cellsOf 9 = 1 := by kernel_rfl
theorem csTaint_int : Try.prog.cellsOf 3 = 1 := by kernel_rfl
section
variable {H : Type} {enc : TypeId × Value → H} {w : World} {base : Nat} {sp : Nat → Bool} {held : Bool}
set_option maxRecDepth 100000 in
theorem trodTaint (fuel : Nat) (cs : List Value) (x : DataW H × List MemPlace) (h : DataW.trod enc Try.prog w base sp held fuel 92 cs = some x) : ∃ t : Taint, LiesS w fuel cs t.row := by
  obtain ⟨xs, n, rfl, _, hl, hxl, hf⟩ := DataW.trod_struct Try.underlying92 h
  rw [csTaint] at hl
  have hxlk : xs.length = 3 := hxl
  obtain ⟨u0, u1, u2, rfl⟩ := of_Taint hl
  obtain ⟨y0, y1, y2, rfl⟩ := of_Taint hxlk
  have f0 := hf 0 _ rfl
  have f1 := hf 1 _ rfl
  have f2 := hf 2 _ rfl
  simp only [csTaint_string, csTaint_int, List.drop_zero, List.drop_succ_cons, List.take_succ_cons, List.take_zero, List.getElem?_cons_zero, List.getElem?_cons_succ] at f0 f1 f2
  obtain ⟨z0, e0, _, w0⟩ := DataW.trod_string Try.underlying9 f0
  obtain ⟨z1, e1, _, w1⟩ := DataW.trod_string Try.underlying9 f1
  obtain ⟨z2, e2, _, w2⟩ := DataW.trod_int Try.underlying3 f2
  injection e0 with e0
  injection e1 with e1
  injection e2 with e2
  subst e0 e1 e2
  refine ⟨⟨z0, z1, z2⟩, ?_⟩
  cases n with
  | zero => simp [DataW.trod] at f0
  | succ n => exact (Taint.lies (f := n) (x := ⟨z0, z1, z2⟩) ⟨w0, w1, w2⟩).deeper (by omega)
set_option maxRecDepth 100000 in
theorem open_TaintS {r : Reach} {b0 : Nat} {v : Value} {d : DataW H} {ps : List MemPlace}
    (hval : Value.okWide Try.prog w r b0 36 v) (hd : DataW.Trod enc Try.prog w base sp held 36 v d ps) : ∃ (l : List Taint) (f : Nat), Lies w f v (.sl 3 l.length (l.flatMap Taint.row)) := by
  obtain ⟨A, n, c, rfl⟩ := okWide_slice Try.underlying36 hval
  obtain ⟨fuel, hf⟩ := hd
  obtain ⟨v', l, h1, h2⟩ := lies_slice (α := Taint) Taint.row Try.underlying36 csTaint (by decide) Taint.row_length (fun n cs' y _ hy => trodTaint n cs' y hy) hf
  have e : v' = .slice A n c := by simpa [Value.cells] using h1.symm
  subst e
  exact ⟨l, fuel, h2⟩
end
end Go.Proofs.Ytcfbkfmkjggcdaa.ty
namespace Go.Proofs.Ytcfbkfmkjggcdaa.ty
open Go.ChangeShapes Go.WideShapes Go.ChangeAt Go.RowKit
set_option linter.unusedVariables false

instance : Inhabited Host := ⟨⟨⟨#[]⟩, [], 0, 0, 0, []⟩⟩
theorem csHost : Try.prog.cellsOf 38 = 6 := by kernel_rfl
theorem csHost_string : Try.prog.cellsOf 9 = 1 := by kernel_rfl
theorem csHost_sl_Label : Try.prog.cellsOf 22 = 1 := by kernel_rfl
theorem csHost_int : Try.prog.cellsOf 3 = 1 := by kernel_rfl
theorem csHost_sl_Taint : Try.prog.cellsOf 36 = 1 := by kernel_rfl
section
variable {H : Type} {enc : TypeId × Value → H} {w : World} {base : Nat} {sp : Nat → Bool} {held : Bool}
set_option maxRecDepth 100000 in
theorem trodHost (fuel : Nat) (cs : List Value) (x : DataW H × List MemPlace) (h : DataW.trod enc Try.prog w base sp held fuel 38 cs = some x) : ∃ t : Host, LiesS w fuel cs t.row := by
  obtain ⟨xs, n, hfn, _, hl, hxl, hf⟩ := DataW.trod_struct Try.underlying38 h
  rw [csHost] at hl
  have hxlk : xs.length = 6 := hxl
  obtain ⟨u0, u1, u2, u3, u4, u5, rfl⟩ := of_Host hl
  obtain ⟨y0, y1, y2, y3, y4, y5, rfl⟩ := of_Host hxlk
  have f0 := hf 0 _ rfl
  have f1 := hf 1 _ rfl
  have f2 := hf 2 _ rfl
  have f3 := hf 3 _ rfl
  have f4 := hf 4 _ rfl
  have f5 := hf 5 _ rfl
  simp only [csHost_string, csHost_sl_Label, csHost_int, csHost_sl_Taint, List.drop_zero, List.drop_succ_cons, List.take_succ_cons, List.take_zero, List.getElem?_cons_zero, List.getElem?_cons_succ] at f0 f1 f2 f3 f4 f5
  obtain ⟨z0, e0, _, w0⟩ := DataW.trod_string Try.underlying9 f0
  obtain ⟨v1, z1, e1, l1⟩ := lies_slice (α := Label) Label.row Try.underlying22 csLabel (by decide) Label.row_length (fun n cs' y _ hy => trodLabel n cs' y hy) f1
  obtain ⟨z2, e2, _, w2⟩ := DataW.trod_int Try.underlying3 f2
  obtain ⟨z3, e3, _, w3⟩ := DataW.trod_int Try.underlying3 f3
  obtain ⟨z4, e4, _, w4⟩ := DataW.trod_int Try.underlying3 f4
  obtain ⟨v5, z5, e5, l5⟩ := lies_slice (α := Taint) Taint.row Try.underlying36 csTaint (by decide) Taint.row_length (fun n cs' y _ hy => trodTaint n cs' y hy) f5
  injection e0 with e0
  injection e1 with e1
  injection e2 with e2
  injection e3 with e3
  injection e4 with e4
  injection e5 with e5
  subst e0 e1 e2 e3 e4 e5
  refine ⟨⟨z0, z1, z2, z3, z4, z5⟩, ?_⟩
  subst hfn
  cases n with
  | zero => simp [DataW.trod] at f0
  | succ n =>
    have m0 : Lies w (n + 1) (.string z0) (.str z0) := ⟨rfl, w0⟩
    have m1 := l1
    have m2 : Lies w (n + 1) (.int .i64 z2) (.int .i64 z2) := ⟨rfl, w2⟩
    have m3 : Lies w (n + 1) (.int .i64 z3) (.int .i64 z3) := ⟨rfl, w3⟩
    have m4 : Lies w (n + 1) (.int .i64 z4) (.int .i64 z4) := ⟨rfl, w4⟩
    have m5 := l5
    exact ((LiesS.cons m0 (LiesS.cons m1 (LiesS.cons m2 (LiesS.cons m3 (LiesS.cons m4 (LiesS.cons m5 LiesS.nil))))))).deeper (Nat.le_succ _)
end
end Go.Proofs.Ytcfbkfmkjggcdaa.ty
namespace Go.Proofs.Ytcfbkfmkjggcdaa.ty
open Go.ChangeShapes Go.WideShapes Go.ChangeAt Go.RowKit
set_option linter.unusedVariables false

section
variable {H : Type} {enc : TypeId × Value → H} {w : World} {base : Nat} {sp : Nat → Bool} {held : Bool}
set_option maxRecDepth 100000 in
theorem open_Host {r : Reach} {b0 : Nat} {v : Value} {d : DataW H} {ps : List MemPlace}
    (hval : Value.okWide Try.prog w r b0 38 v) (hd : DataW.Trod enc Try.prog w base sp held 38 v d ps) : ∃ (t : Host) (f : Nat) (vs : List Value), v = .agg vs.toArray ∧ LiesS w f vs t.row := by
  obtain ⟨cs, rfl, hsz⟩ := okWide_struct Try.underlying38 hval
  obtain ⟨fuel, hf⟩ := hd
  obtain ⟨l⟩ := cs
  obtain ⟨t, ht⟩ := trodHost fuel _ _ hf
  exact ⟨t, fuel, l, rfl, by simpa [Value.cells] using ht⟩
end
end Go.Proofs.Ytcfbkfmkjggcdaa.ty
