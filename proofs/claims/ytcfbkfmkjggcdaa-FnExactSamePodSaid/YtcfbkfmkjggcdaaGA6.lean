/- Merged: EqToleranceS EqPod TrNeed OpToleranceS TrPod. -/
import Derived.Test.YtcfbkfmkjggcdaaGA5
import Derived.Test.YtcfbkfmkjggcdaaGA4
import Derived.Test.YtcfbkfmkjggcdaaGA3
import Derived.Test.YtcfbkfmkjggcdaaRows
import Derived.ProofKit
import Derived.OpenShut
import Derived.Test.YtcfbkfmkjggcdaaGA1
namespace Go.Proofs.Ytcfbkfmkjggcdaa.ty
open Go.ChangeShapes Go.WideShapes Go.ChangeAt Go.RowKit
set_option linter.unusedVariables false

set_option maxRecDepth 100000 in
theorem eqToleranceS (l : List Tolerance) (f1 f2 : Nat) (v1 v2 : Value) (w : World) (h1 : Lies w f1 v1 (.sl 4 l.length (l.flatMap Tolerance.row))) (h2 : Lies w f2 v2 (.sl 4 l.length (l.flatMap Tolerance.row))) :
    Calls Try.prog 34 #[v1, v2] w fun e w' => e = .returned (.bool true) ∧ Below w.heap.size w w' := by
  obtain ⟨A1, c1, rfl, hc1, hm1, f', rfl, hk1⟩ := els_of Tolerance.row_length h1
  obtain ⟨A2, c2, rfl, hc2, hm2, f'', rfl, hk2⟩ := els_of Tolerance.row_length h2
  unfold maxLen at hm1 hm2
  have Hk1 := Lib.hid hk1
  have Hk2 := Lib.hid hk2
  clear h1 h2 hk1 hk2
  go_enter Try.func34, Try.ntmps34
  go_wp2_with fail
  go_loopw [5] (fun i wr => ∃ (j : Nat), j ≤ l.length ∧ i = .int .i64 j ∧ Below w.heap.size w wr) (fun i _ => l.length - (intOf i).toNat)
  case atStart => exact ⟨0, Nat.zero_le _, rfl, Below.refl _ _⟩
  case round =>
    obtain ⟨j, hj, rfl, hbel⟩ := hrel
    by_cases hlt : j < l.length
    · obtain ⟨g1, o1, rfl, hg1, us, hus1, hcc1, hls1⟩ := (Hk1.out.below hbel).get hlt
      obtain ⟨g2, o2, rfl, hg2, us2, hus2, hcc2, hls2⟩ := (Hk2.out.below hbel).get hlt
      obtain ⟨rfl, hwf1⟩ := Tolerance.opened hls1
      obtain ⟨rfl, hwf2⟩ := Tolerance.opened hls2
      have q0 : wr.cell? ⟨g1, o1 + j * 4, none⟩ = some (.string l[j].key) := hcc1 0 _ rfl
      have q1 : wr.cell? ⟨g1, o1 + j * 4 + 1, none⟩ = some (.bool l[j].equal) := hcc1 1 _ rfl
      have q2 : wr.cell? ⟨g1, o1 + j * 4 + 2, none⟩ = some (.string l[j].value) := hcc1 2 _ rfl
      have q3 : wr.cell? ⟨g1, o1 + j * 4 + 3, none⟩ = some (.int .i64 l[j].effect) := hcc1 3 _ rfl
      have r0 : wr.cell? ⟨g2, o2 + j * 4, none⟩ = some (.string l[j].key) := hcc2 0 _ rfl
      have r1 : wr.cell? ⟨g2, o2 + j * 4 + 1, none⟩ = some (.bool l[j].equal) := hcc2 1 _ rfl
      have r2 : wr.cell? ⟨g2, o2 + j * 4 + 2, none⟩ = some (.string l[j].value) := hcc2 2 _ rfl
      have r3 : wr.cell? ⟨g2, o2 + j * 4 + 3, none⟩ = some (.int .i64 l[j].effect) := hcc2 3 _ rfl
      have HC := Lib.hid (fun w1 => eqTolerance l[j] w1)
      have Hbel := Lib.hid hbel
      clear hls1 hls2 hbel hg1 hg2 hus1 hus2 hcc1 hcc2 hwf1 hwf2
      generalize l[j] = x at HC q0 q1 q2 q3 r0 r1 r2 r3
      go_wp2_with fail
      go_region_law (go_simp; go_at_call 53; refine (HC.out _).mono ?_; rintro e w1 ⟨rfl, hb1⟩)
      all_goals
        have hbel1 := Hbel.out.trans (((Below.refl _ _).drew.trans (hb1.mono (Nat.le_refl _))).mono Hbel.out.size)
        clear hb1 q0 q1 q2 q3 r0 r1 r2 r3
        go_wp2_with fail
        go_roundw
        case rel => exact ⟨j + 1, by omega, by go_num, hbel1⟩
        case measure => simp [intOf]; omega
    · obtain rfl : j = l.length := by omega
      have Hbel := Lib.hid hbel
      clear hbel
      go_wp2_with fail
      go_ret
      exact ⟨rfl, Hbel.out⟩
end Go.Proofs.Ytcfbkfmkjggcdaa.ty
namespace Go.Proofs.Ytcfbkfmkjggcdaa.ty
open Go.ChangeShapes Go.WideShapes Go.ChangeAt Go.RowKit
set_option linter.unusedVariables false

theorem eqPod (x : Pod) (f1 f2 : Nat) (vs us : List Value) (w : World) (h1 : LiesS w f1 vs x.row) (h2 : LiesS w f2 us x.row) :
    Calls Try.prog 10 #[.agg vs.toArray, .agg us.toArray] w fun e w' => e = .returned (.bool true) ∧ Below w.heap.size w w' := by
  obtain ⟨a0, a1, a2, a3, a4, a5, a6⟩ := x
  obtain ⟨A1, c1, A5, c5, A6, c6, rfl, hwf, k1, m1, l1, k5, m5, l5, k6, m6, l6⟩ := Pod.opened h1
  obtain ⟨B1, d1, B5, d5, B6, d6, rfl, hwf2, k1_, m1_, r1, k5_, m5_, r5, k6_, m6_, r6⟩ := Pod.opened h2
  simp only at *
  have HB1 := Lib.hid (Box.new 33 w [.string a0, .slice A1 a1.length c1, .int .i64 a2, .int .i64 a3, .int .i64 a4, .slice A5 a5.length c5, .slice A6 a6.length c6])
  have HB2 := Lib.hid (HB1.out.below ((Below.refl _ _).alloc (Nat.le_refl _) (.cells #[.string a0, .slice B1 a1.length d1, .int .i64 a2, .int .i64 a3, .int .i64 a4, .slice B5 a5.length d5, .slice B6 a6.length d6] 33)))
  have HB3 := Lib.hid (Box.new 33 (w.alloc (.cells #[.string a0, .slice A1 a1.length c1, .int .i64 a2, .int .i64 a3, .int .i64 a4, .slice A5 a5.length c5, .slice A6 a6.length c6] 33)) [.string a0, .slice B1 a1.length d1, .int .i64 a2, .int .i64 a3, .int .i64 a4, .slice B5 a5.length d5, .slice B6 a6.length d6])
  have hsz : (w.alloc (.cells #[.string a0, .slice A1 a1.length c1, .int .i64 a2, .int .i64 a3, .int .i64 a4, .slice A5 a5.length c5, .slice A6 a6.length c6] 33)).heap.size = w.heap.size + 1 := by simp
  have E1 := Lib.hid (fun w1 (hb : Below w.heap.size w w1) => eqLabelS a1 f1 f2 (.slice A1 a1.length c1) (.slice B1 a1.length d1) w1 (l1.below hb) (r1.below hb))
  have E5 := Lib.hid (fun w1 (hb : Below w.heap.size w w1) => eqNeedS a5 f1 f2 (.slice A5 a5.length c5) (.slice B5 a5.length d5) w1 (l5.below hb) (r5.below hb))
  have E6 := Lib.hid (fun w1 (hb : Below w.heap.size w w1) => eqToleranceS a6 f1 f2 (.slice A6 a6.length c6) (.slice B6 a6.length d6) w1 (l6.below hb) (r6.below hb))
  have p0 := HB2.out.cell (j := 0) rfl
  have p1 := HB2.out.cell (j := 1) rfl
  have p2 := HB2.out.cell (j := 2) rfl
  have p3 := HB2.out.cell (j := 3) rfl
  have p4 := HB2.out.cell (j := 4) rfl
  have p5 := HB2.out.cell (j := 5) rfl
  have p6 := HB2.out.cell (j := 6) rfl
  have q0 := HB3.out.cell (j := 0) rfl
  have q1 := HB3.out.cell (j := 1) rfl
  have q2 := HB3.out.cell (j := 2) rfl
  have q3 := HB3.out.cell (j := 3) rfl
  have q4 := HB3.out.cell (j := 4) rfl
  have q5 := HB3.out.cell (j := 5) rfl
  have q6 := HB3.out.cell (j := 6) rfl
  rw [hsz] at q0 q1 q2 q3 q4 q5 q6
  have hq := HB3.out.2
  rw [hsz] at hq
  have Hq := Lib.hid hq
  have Hp := Lib.hid HB2.out.2
  have Hbb := Lib.hid HB2.out.1
  clear h1 h2 hwf hwf2 HB1 HB2 HB3 hq hsz l1 r1 k1 m1 k1_ m1_ l5 r5 k5 m5 k5_ m5_ l6 r6 k6 m6 k6_ m6_
  go_enter Try.func10, Try.ntmps10
  go_wp2_with fail
  refine (E1.out _ Hbb.out).mono ?_
  rintro e y1 ⟨rfl, b1⟩
  have Hbb1 := Lib.hid (Hbb.out.trans (b1.mono Hbb.out.size))
  clear p0 p1 p2 p3 p4 p5 p6 q0 q1 q2 q3 q4 q5 q6
  have Hp1 := Lib.hid (heap_kept b1 (heap_lt Hp.out) Hp.out)
  have Hq1 := Lib.hid (heap_kept b1 (heap_lt Hq.out) Hq.out)
  have p2_1 : y1.cell? ⟨w.heap.size, 2, none⟩ = some (.int .i64 a2) := by rw [cell_of_row _ _ 2 _ _ _ Hp1.out]; rfl
  have q2_1 : y1.cell? ⟨w.heap.size + 1, 2, none⟩ = some (.int .i64 a2) := by rw [cell_of_row _ _ 2 _ _ _ Hq1.out]; rfl
  have p3_1 : y1.cell? ⟨w.heap.size, 3, none⟩ = some (.int .i64 a3) := by rw [cell_of_row _ _ 3 _ _ _ Hp1.out]; rfl
  have q3_1 : y1.cell? ⟨w.heap.size + 1, 3, none⟩ = some (.int .i64 a3) := by rw [cell_of_row _ _ 3 _ _ _ Hq1.out]; rfl
  have p4_1 : y1.cell? ⟨w.heap.size, 4, none⟩ = some (.int .i64 a4) := by rw [cell_of_row _ _ 4 _ _ _ Hp1.out]; rfl
  have q4_1 : y1.cell? ⟨w.heap.size + 1, 4, none⟩ = some (.int .i64 a4) := by rw [cell_of_row _ _ 4 _ _ _ Hq1.out]; rfl
  have p5_1 : y1.cell? ⟨w.heap.size, 5, none⟩ = some (.slice A5 a5.length c5) := by rw [cell_of_row _ _ 5 _ _ _ Hp1.out]; rfl
  have q5_1 : y1.cell? ⟨w.heap.size + 1, 5, none⟩ = some (.slice B5 a5.length d5) := by rw [cell_of_row _ _ 5 _ _ _ Hq1.out]; rfl
  have p6_1 : y1.cell? ⟨w.heap.size, 6, none⟩ = some (.slice A6 a6.length c6) := by rw [cell_of_row _ _ 6 _ _ _ Hp1.out]; rfl
  have q6_1 : y1.cell? ⟨w.heap.size + 1, 6, none⟩ = some (.slice B6 a6.length d6) := by rw [cell_of_row _ _ 6 _ _ _ Hq1.out]; rfl
  clear b1
  go_wp2_with fail
  refine (E5.out _ Hbb1.out).mono ?_
  rintro e y5 ⟨rfl, b5⟩
  have Hbb5 := Lib.hid (Hbb1.out.trans (b5.mono Hbb1.out.size))
  clear p2_1 q2_1 p3_1 q3_1 p4_1 q4_1 p5_1 q5_1 p6_1 q6_1
  have Hp5 := Lib.hid (heap_kept b5 (heap_lt Hp1.out) Hp1.out)
  have Hq5 := Lib.hid (heap_kept b5 (heap_lt Hq1.out) Hq1.out)
  have p6_5 : y5.cell? ⟨w.heap.size, 6, none⟩ = some (.slice A6 a6.length c6) := by rw [cell_of_row _ _ 6 _ _ _ Hp5.out]; rfl
  have q6_5 : y5.cell? ⟨w.heap.size + 1, 6, none⟩ = some (.slice B6 a6.length d6) := by rw [cell_of_row _ _ 6 _ _ _ Hq5.out]; rfl
  clear b5
  go_wp2_with fail
  refine (E6.out _ Hbb5.out).mono ?_
  rintro e y6 ⟨rfl, b6⟩
  have Hbb6 := Lib.hid (Hbb5.out.trans (b6.mono Hbb5.out.size))
  clear p6_5 q6_5
  clear b6
  go_wp2_with fail
  go_ret
  exact ⟨rfl, Hbb6.out⟩
end Go.Proofs.Ytcfbkfmkjggcdaa.ty
namespace Go.Proofs.Ytcfbkfmkjggcdaa.ty
open Go.ChangeShapes Go.WideShapes Go.ChangeAt Go.RowKit
set_option linter.unusedVariables false

instance : Inhabited Need := ⟨⟨⟨#[]⟩, 0, []⟩⟩
theorem csNeed : Try.prog.cellsOf 79 = 3 := by kernel_rfl
theorem csNeed_string : Try.prog.cellsOf 9 = 1 := by kernel_rfl
theorem csNeed_int : Try.prog.cellsOf 3 = 1 := by kernel_rfl
theorem csNeed_sl_Str : Try.prog.cellsOf 77 = 1 := by kernel_rfl
section
variable {H : Type} {enc : TypeId × Value → H} {w : World} {base : Nat} {sp : Nat → Bool} {held : Bool}
set_option maxRecDepth 100000 in
theorem trodNeed (fuel : Nat) (cs : List Value) (x : DataW H × List MemPlace) (h : DataW.trod enc Try.prog w base sp held fuel 79 cs = some x) : ∃ t : Need, LiesS w fuel cs t.row := by
  obtain ⟨xs, n, hfn, _, hl, hxl, hf⟩ := DataW.trod_struct Try.underlying79 h
  rw [csNeed] at hl
  have hxlk : xs.length = 3 := hxl
  obtain ⟨u0, u1, u2, rfl⟩ := of_Need hl
  obtain ⟨y0, y1, y2, rfl⟩ := of_Need hxlk
  have f0 := hf 0 _ rfl
  have f1 := hf 1 _ rfl
  have f2 := hf 2 _ rfl
  simp only [csNeed_string, csNeed_int, csNeed_sl_Str, List.drop_zero, List.drop_succ_cons, List.take_succ_cons, List.take_zero, List.getElem?_cons_zero, List.getElem?_cons_succ] at f0 f1 f2
  obtain ⟨z0, e0, _, w0⟩ := DataW.trod_string Try.underlying9 f0
  obtain ⟨z1, e1, _, w1⟩ := DataW.trod_int Try.underlying3 f1
  obtain ⟨v2, z2, e2, l2⟩ := lies_slice (α := ByteArray) Str.row Try.underlying77 csNeed_string (by decide) Str.row_length (fun n cs' y _ hy => by
    obtain ⟨s, rfl, _, hs⟩ := DataW.trod_string Try.underlying9 hy
    cases n with
    | zero => simp [DataW.trod] at hy
    | succ n => exact ⟨s, LiesS.cons ⟨rfl, hs⟩ LiesS.nil⟩) f2
  injection e0 with e0
  injection e1 with e1
  injection e2 with e2
  subst e0 e1 e2
  refine ⟨⟨z0, z1, z2⟩, ?_⟩
  subst hfn
  cases n with
  | zero => simp [DataW.trod] at f0
  | succ n =>
    have m0 : Lies w (n + 1) (.string z0) (.str z0) := ⟨rfl, w0⟩
    have m1 : Lies w (n + 1) (.int .i64 z1) (.int .i64 z1) := ⟨rfl, w1⟩
    have m2 := l2
    exact ((LiesS.cons m0 (LiesS.cons m1 (LiesS.cons m2 LiesS.nil)))).deeper (Nat.le_succ _)
end
end Go.Proofs.Ytcfbkfmkjggcdaa.ty
namespace Go.Proofs.Ytcfbkfmkjggcdaa.ty
open Go.ChangeShapes Go.WideShapes Go.ChangeAt Go.RowKit
set_option linter.unusedVariables false

instance : Inhabited Tolerance := ⟨⟨⟨#[]⟩, false, ⟨#[]⟩, 0⟩⟩
theorem csTolerance : Try.prog.cellsOf 81 = 4 := by kernel_rfl
theorem csTolerance_string : Try.prog.cellsOf 9 = 1 := by kernel_rfl
theorem csTolerance_bool : Try.prog.cellsOf 4 = 1 := by kernel_rfl
theorem csTolerance_int : Try.prog.cellsOf 3 = 1 := by kernel_rfl
section
variable {H : Type} {enc : TypeId × Value → H} {w : World} {base : Nat} {sp : Nat → Bool} {held : Bool}
set_option maxRecDepth 100000 in
theorem trodTolerance (fuel : Nat) (cs : List Value) (x : DataW H × List MemPlace) (h : DataW.trod enc Try.prog w base sp held fuel 81 cs = some x) : ∃ t : Tolerance, LiesS w fuel cs t.row := by
  obtain ⟨xs, n, rfl, _, hl, hxl, hf⟩ := DataW.trod_struct Try.underlying81 h
  rw [csTolerance] at hl
  have hxlk : xs.length = 4 := hxl
  obtain ⟨u0, u1, u2, u3, rfl⟩ := of_Tolerance hl
  obtain ⟨y0, y1, y2, y3, rfl⟩ := of_Tolerance hxlk
  have f0 := hf 0 _ rfl
  have f1 := hf 1 _ rfl
  have f2 := hf 2 _ rfl
  have f3 := hf 3 _ rfl
  simp only [csTolerance_string, csTolerance_bool, csTolerance_int, List.drop_zero, List.drop_succ_cons, List.take_succ_cons, List.take_zero, List.getElem?_cons_zero, List.getElem?_cons_succ] at f0 f1 f2 f3
  obtain ⟨z0, e0, _, w0⟩ := DataW.trod_string Try.underlying9 f0
  obtain ⟨z1, e1, _⟩ := DataW.trod_bool Try.underlying4 f1
  obtain ⟨z2, e2, _, w2⟩ := DataW.trod_string Try.underlying9 f2
  obtain ⟨z3, e3, _, w3⟩ := DataW.trod_int Try.underlying3 f3
  injection e0 with e0
  injection e1 with e1
  injection e2 with e2
  injection e3 with e3
  subst e0 e1 e2 e3
  refine ⟨⟨z0, z1, z2, z3⟩, ?_⟩
  cases n with
  | zero => simp [DataW.trod] at f0
  | succ n => exact (Tolerance.lies (f := n) (x := ⟨z0, z1, z2, z3⟩) ⟨w0, w2, w3⟩).deeper (by omega)
set_option maxRecDepth 100000 in
theorem open_ToleranceS {r : Reach} {b0 : Nat} {v : Value} {d : DataW H} {ps : List MemPlace}
    (hval : Value.okWide Try.prog w r b0 24 v) (hd : DataW.Trod enc Try.prog w base sp held 24 v d ps) : ∃ (l : List Tolerance) (f : Nat), Lies w f v (.sl 4 l.length (l.flatMap Tolerance.row)) := by
  obtain ⟨A, n, c, rfl⟩ := okWide_slice Try.underlying24 hval
  obtain ⟨fuel, hf⟩ := hd
  obtain ⟨v', l, h1, h2⟩ := lies_slice (α := Tolerance) Tolerance.row Try.underlying24 csTolerance (by decide) Tolerance.row_length (fun n cs' y _ hy => trodTolerance n cs' y hy) hf
  have e : v' = .slice A n c := by simpa [Value.cells] using h1.symm
  subst e
  exact ⟨l, fuel, h2⟩
end
end Go.Proofs.Ytcfbkfmkjggcdaa.ty
namespace Go.Proofs.Ytcfbkfmkjggcdaa.ty
open Go.ChangeShapes Go.WideShapes Go.ChangeAt Go.RowKit
set_option linter.unusedVariables false

instance : Inhabited Pod := ⟨⟨⟨#[]⟩, [], 0, 0, 0, [], []⟩⟩
theorem csPod : Try.prog.cellsOf 26 = 7 := by kernel_rfl
theorem csPod_string : Try.prog.cellsOf 9 = 1 := by kernel_rfl
theorem csPod_sl_Label : Try.prog.cellsOf 22 = 1 := by kernel_rfl
theorem csPod_int : Try.prog.cellsOf 3 = 1 := by kernel_rfl
theorem csPod_sl_Need : Try.prog.cellsOf 23 = 1 := by kernel_rfl
theorem csPod_sl_Tolerance : Try.prog.cellsOf 24 = 1 := by kernel_rfl
section
variable {H : Type} {enc : TypeId × Value → H} {w : World} {base : Nat} {sp : Nat → Bool} {held : Bool}
set_option maxRecDepth 100000 in
theorem trodPod (fuel : Nat) (cs : List Value) (x : DataW H × List MemPlace) (h : DataW.trod enc Try.prog w base sp held fuel 26 cs = some x) : ∃ t : Pod, LiesS w fuel cs t.row := by
  obtain ⟨xs, n, hfn, _, hl, hxl, hf⟩ := DataW.trod_struct Try.underlying26 h
  rw [csPod] at hl
  have hxlk : xs.length = 7 := hxl
  obtain ⟨u0, u1, u2, u3, u4, u5, u6, rfl⟩ := of_Pod hl
  obtain ⟨y0, y1, y2, y3, y4, y5, y6, rfl⟩ := of_Pod hxlk
  have f0 := hf 0 _ rfl
  have f1 := hf 1 _ rfl
  have f2 := hf 2 _ rfl
  have f3 := hf 3 _ rfl
  have f4 := hf 4 _ rfl
  have f5 := hf 5 _ rfl
  have f6 := hf 6 _ rfl
  simp only [csPod_string, csPod_sl_Label, csPod_int, csPod_sl_Need, csPod_sl_Tolerance, List.drop_zero, List.drop_succ_cons, List.take_succ_cons, List.take_zero, List.getElem?_cons_zero, List.getElem?_cons_succ] at f0 f1 f2 f3 f4 f5 f6
  obtain ⟨z0, e0, _, w0⟩ := DataW.trod_string Try.underlying9 f0
  obtain ⟨v1, z1, e1, l1⟩ := lies_slice (α := Label) Label.row Try.underlying22 csLabel (by decide) Label.row_length (fun n cs' y _ hy => trodLabel n cs' y hy) f1
  obtain ⟨z2, e2, _, w2⟩ := DataW.trod_int Try.underlying3 f2
  obtain ⟨z3, e3, _, w3⟩ := DataW.trod_int Try.underlying3 f3
  obtain ⟨z4, e4, _, w4⟩ := DataW.trod_int Try.underlying3 f4
  obtain ⟨v5, z5, e5, l5⟩ := lies_slice (α := Need) Need.row Try.underlying23 csNeed (by decide) Need.row_length (fun n cs' y _ hy => trodNeed n cs' y hy) f5
  obtain ⟨v6, z6, e6, l6⟩ := lies_slice (α := Tolerance) Tolerance.row Try.underlying24 csTolerance (by decide) Tolerance.row_length (fun n cs' y _ hy => trodTolerance n cs' y hy) f6
  injection e0 with e0
  injection e1 with e1
  injection e2 with e2
  injection e3 with e3
  injection e4 with e4
  injection e5 with e5
  injection e6 with e6
  subst e0 e1 e2 e3 e4 e5 e6
  refine ⟨⟨z0, z1, z2, z3, z4, z5, z6⟩, ?_⟩
  subst hfn
  cases n with
  | zero => simp [DataW.trod] at f0
  | succ n =>
    have m0 : Lies w (n + 1) (.string z0) (.str z0) := ⟨rfl, w0⟩
    have m1 := l1
    have m2 : Lies w (n + 1) (.int .i64 z2) (.int .i64 z2) := ⟨rfl, w2⟩
    have m3 : Lies w (n + 1) (.int .i64 z3) (.int .i64 z3) := ⟨rfl, w3⟩
    have m4 : Lies w (n + 1) (.int .i64 z4) (.int .i64 z4) := ⟨rfl, w4⟩
    have m5 := l5
    have m6 := l6
    exact ((LiesS.cons m0 (LiesS.cons m1 (LiesS.cons m2 (LiesS.cons m3 (LiesS.cons m4 (LiesS.cons m5 (LiesS.cons m6 LiesS.nil)))))))).deeper (Nat.le_succ _)
end
end Go.Proofs.Ytcfbkfmkjggcdaa.ty
