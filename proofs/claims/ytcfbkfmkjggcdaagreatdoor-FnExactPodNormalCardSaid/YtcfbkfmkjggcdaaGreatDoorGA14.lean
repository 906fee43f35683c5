/- Merged: SzTolerance SzToleranceS SzPod EqStr EqNeed EqNeedS EqTolerance EqToleranceS EqPod CmpNM. -/
import Derived.Test.YtcfbkfmkjggcdaaGreatDoorGA3
import Derived.Test.YtcfbkfmkjggcdaaGreatDoorRows
import Derived.ProofKit
import Derived.OpenShut
import Derived.Test.YtcfbkfmkjggcdaaGreatDoorGA8
import Derived.Test.YtcfbkfmkjggcdaaGreatDoorGA13
import Derived.Test.YtcfbkfmkjggcdaaGreatDoorGA17
import Derived.Test.YtcfbkfmkjggcdaaGreatDoorGA5
import Derived.Test.YtcfbkfmkjggcdaaGreatDoorGA6
namespace Go.Proofs.YtcfbkfmkjggcdaaGreatDoor.ty
open Go.ChangeShapes Go.WideShapes Go.ChangeAt Go.RowKit
set_option linter.unusedVariables false

theorem szTolerance (x : Tolerance) (left : Int) (w : World) (hx : x.Wf) (hl : LeftN left) :
    Calls Tryz.prog 127 #[.agg #[.string x.key, .bool x.equal, .string x.value, .int .i64 x.effect], .int .i64 left] w fun e w' => e = .returned (.int .i64 (cutN left x.wt)) ∧ Below w.heap.size w w' := by
  obtain ⟨a0, a1, a2, a3⟩ := x
  obtain ⟨w0, w2, w3⟩ := hx
  simp only at *
  unfold maxLen at w0 w2
  unfold LeftN at hl
  rw [show Tolerance.wt ⟨a0, a1, a2, a3⟩ = a0.size + a2.size from rfl]
  have Hb := Lib.hid ((Below.refl w.heap.size w).alloc (Nat.le_refl _) (.cells #[.string a0, .bool a1, .string a2, .int .i64 a3] 149))
  by_cases h0 : left < (a0.size : Int)
  · have He := Lib.hid (cutN_no (show left < ((a0.size + a2.size : Nat) : Int) by omega))
    go_enter Tryz.func127, Tryz.ntmps127
    go_wp2_with fail
    go_ret
    exact ⟨by rw [He.out]; rfl, Hb.out⟩
  by_cases h1 : left - a0.size < (a2.size : Int)
  · have He := Lib.hid (cutN_no (show left < ((a0.size + a2.size : Nat) : Int) by omega))
    go_enter Tryz.func127, Tryz.ntmps127
    go_wp2_with fail
    go_ret
    exact ⟨by rw [He.out]; rfl, Hb.out⟩
  have He := Lib.hid (cutN_yes (show ¬ left < ((a0.size + a2.size : Nat) : Int) by omega))
  have He2 := Lib.hid (show left - ((a0.size + a2.size : Nat) : Int) = left - a0.size - a2.size by omega)
  go_enter Tryz.func127, Tryz.ntmps127
  go_wp2_with fail
  go_ret
  exact ⟨by rw [He.out, He2.out]; rfl, Hb.out⟩
end Go.Proofs.YtcfbkfmkjggcdaaGreatDoor.ty
namespace Go.Proofs.YtcfbkfmkjggcdaaGreatDoor.ty
open Go.ChangeShapes Go.WideShapes Go.ChangeAt Go.RowKit
set_option linter.unusedVariables false

theorem szToleranceS (l : List Tolerance) (f : Nat) (v : Value) (left : Int) (w : World) (h : Lies w f v (.sl 4 l.length (l.flatMap Tolerance.row))) (hl : LeftN left) :
    Calls Tryz.prog 63 #[v, .int .i64 left] w fun e w' => e = .returned (.int .i64 (cutN left (l.length + wsum Tolerance.wt l))) ∧ Below w.heap.size w w' := by
  obtain ⟨A, c, rfl, hc1, hc2, f', rfl, hk⟩ := els_of Tolerance.row_length h
  unfold maxLen at hc2
  unfold LeftN at hl
  have Hk := Lib.hid hk
  clear h hk
  by_cases h0 : left < l.length
  · have He := Lib.hid (cutN_no (show left < ((l.length + wsum Tolerance.wt l : Nat) : Int) by omega))
    go_enter Tryz.func63, Tryz.ntmps63
    go_wp2_with fail
    go_ret
    exact ⟨by rw [He.out]; rfl, Below.refl _ _⟩
  go_enter Tryz.func63, Tryz.ntmps63
  go_wp2_with fail
  go_loopw [1, 5] (fun a i wr => ∃ (j : Nat) (z : Int), j ≤ l.length ∧ i = .int .i64 j ∧ a = .int .i64 z ∧ 0 ≤ z ∧ z ≤ 1048576 ∧ Hid (z = left - l.length - wsum Tolerance.wt (l.take j)) ∧ Below w.heap.size w wr) (fun _ i _ => l.length - (intOf i).toNat)
  case atStart => exact ⟨0, left - l.length, Nat.zero_le _, rfl, rfl, by omega, by omega, by unfold Hid; simp [wsum], Below.refl _ _⟩
  case round =>
    obtain ⟨j, z, hj, rfl, rfl, hz0, hz1, hin, hbel⟩ := hrel
    by_cases hlt : j < l.length
    · obtain ⟨g, o, rfl, hg, us, hus, hc, hls⟩ := (Hk.out.below hbel).get hlt
      obtain ⟨rfl, hwf⟩ := Tolerance.opened hls
      have q0 : wr.cell? ⟨g, o + j * 4, none⟩ = some (.string l[j].key) := hc 0 _ rfl
      have q1 : wr.cell? ⟨g, o + j * 4 + 1, none⟩ = some (.bool l[j].equal) := hc 1 _ rfl
      have q2 : wr.cell? ⟨g, o + j * 4 + 2, none⟩ = some (.string l[j].value) := hc 2 _ rfl
      have q3 : wr.cell? ⟨g, o + j * 4 + 3, none⟩ = some (.int .i64 l[j].effect) := hc 3 _ rfl
      have HC := Lib.hid (szTolerance l[j] z wr hwf ⟨hz0, hz1⟩)
      have hnext := wsum_take Tolerance.wt hlt
      have hall := wsum_all Tolerance.wt l (j + 1)
      have Hbel := Lib.hid hbel
      clear hls hbel hg hus hc hwf
      by_cases h1 : z < (l[j].wt : Int)
      · have He := Lib.hid (cutN_no (show left < ((l.length + wsum Tolerance.wt l : Nat) : Int) by have := hin.out; omega))
        rw [cutN_no h1] at HC
        clear hnext hall hin h1
        generalize l[j] = x at q0 q1 q2 q3 HC
        go_wp2_with fail
        refine HC.out.mono ?_
        rintro e w1 ⟨rfl, hb1⟩
        have Hbel1 := Lib.hid (Hbel.out.trans (hb1.mono Hbel.out.size))
        clear hb1 q0 q1 q2 q3
        go_wp2_with fail
        go_ret
        exact ⟨by rw [He.out]; rfl, Hbel1.out⟩
      · have Hin := Lib.hid (show z - l[j].wt = left - l.length - wsum Tolerance.wt (l.take (j + 1)) by have := hin.out; omega)
        rw [cutN_yes h1] at HC
        clear hnext hall hin
        generalize l[j] = x at q0 q1 q2 q3 HC h1 Hin
        generalize x.wt = y at HC h1 Hin
        go_wp2_with fail
        refine HC.out.mono ?_
        rintro e w1 ⟨rfl, hb1⟩
        have Hbel1 := Lib.hid (Hbel.out.trans (hb1.mono Hbel.out.size))
        clear hb1 q0 q1 q2 q3
        go_wp2_with fail
        go_roundw
        case rel => exact ⟨j + 1, z - y, by omega, by go_num, rfl, by omega, by omega, Hin.out, Hbel1.out⟩
        case measure => simp [intOf]; omega
    · obtain rfl : j = l.length := by omega
      rw [List.take_of_length_le (Nat.le_refl _)] at hin
      have He := Lib.hid (cutN_yes (show ¬ left < ((l.length + wsum Tolerance.wt l : Nat) : Int) by have := hin.out; omega))
      have Hin := Lib.hid (show left - ((l.length + wsum Tolerance.wt l : Nat) : Int) = z by have := hin.out; omega)
      have Hbel := Lib.hid hbel
      clear hin hbel
      go_wp2_with fail
      go_ret
      exact ⟨by rw [He.out, Hin.out]; rfl, Hbel.out⟩
end Go.Proofs.YtcfbkfmkjggcdaaGreatDoor.ty
namespace Go.Proofs.YtcfbkfmkjggcdaaGreatDoor.ty
open Go.ChangeShapes Go.WideShapes Go.ChangeAt Go.RowKit
set_option linter.unusedVariables false

theorem szPod (x : Pod) (f : Nat) (vs : List Value) (left : Int) (w : World) (h : LiesS w f vs x.row) (hl : LeftN left) :
    Calls Tryz.prog 20 #[.agg vs.toArray, .int .i64 left] w fun e w' => e = .returned (.int .i64 (cutN left x.wt)) ∧ Below w.heap.size w w' := by
  obtain ⟨a0, a1, a2, a3, a4, a5, a6⟩ := x
  obtain ⟨A1, c1, A5, c5, A6, c6, rfl, hwf, k1, m1, l1, k5, m5, l5, k6, m6, l6⟩ := Pod.opened h
  simp only [Pod.Wf] at *
  obtain ⟨w0, w2, w3, w4⟩ := hwf
  unfold maxLen at w0
  unfold LeftN at hl
  rw [show Pod.wt ⟨a0, a1, a2, a3, a4, a5, a6⟩ = a0.size + (a1.length + wsum Label.wt a1) + (a5.length + wsum Need.wt a5) + (a6.length + wsum Tolerance.wt a6) from rfl]
  have HB := Lib.hid (Box.new 49 w [.string a0, .slice A1 a1.length c1, .int .i64 a2, .int .i64 a3, .int .i64 a4, .slice A5 a5.length c5, .slice A6 a6.length c6])
  have H1 := Lib.hid (fun w1 left (hb : Below w.heap.size w w1) hl => szLabelS a1 f (.slice A1 a1.length c1) left w1 (l1.below hb) hl)
  have H5 := Lib.hid (fun w1 left (hb : Below w.heap.size w w1) hl => szNeedS a5 f (.slice A5 a5.length c5) left w1 (l5.below hb) hl)
  have H6 := Lib.hid (fun w1 left (hb : Below w.heap.size w w1) hl => szToleranceS a6 f (.slice A6 a6.length c6) left w1 (l6.below hb) hl)
  clear h l1 k1 m1 l5 k5 m5 l6 k6 m6
  have p0 := HB.out.cell (j := 0) rfl
  have p1 := HB.out.cell (j := 1) rfl
  have p5 := HB.out.cell (j := 5) rfl
  have p6 := HB.out.cell (j := 6) rfl
  generalize hX1 : a1.length + wsum Label.wt a1 = X1 at H1 ⊢
  generalize hX5 : a5.length + wsum Need.wt a5 = X5 at H5 ⊢
  generalize hX6 : a6.length + wsum Tolerance.wt a6 = X6 at H6 ⊢
  by_cases h0 : left < (a0.size : Int)
  · have He := Lib.hid (cutN_no (show left < ((a0.size + X1 + X5 + X6 : Nat) : Int) by omega))
    clear hX1 H1 hX5 H5 hX6 H6
    go_enter Tryz.func20, Tryz.ntmps20
    go_wp2_with fail
    go_ret
    exact ⟨by rw [He.out]; rfl, HB.out.1⟩
  by_cases h1 : left - (a0.size : Int) < (X1 : Int)
  · have He := Lib.hid (cutN_no (show left < ((a0.size + X1 + X5 + X6 : Nat) : Int) by omega))
    have J1 := Lib.hid (fun w1 hb => H1.out w1 (left - (a0.size : Int)) hb ⟨by omega, by omega⟩)
    rw [cutN_no h1] at J1
    clear hX1 H1 hX5 H5 hX6 H6
    go_enter Tryz.func20, Tryz.ntmps20
    go_wp2_with fail
    refine (J1.out _ HB.out.1).mono ?_
    rintro e x1 ⟨rfl, hb1⟩
    have HB1 := Lib.hid (HB.out.below hb1)
    have p5_1 := HB1.out.cell (j := 5) rfl
    have p6_1 := HB1.out.cell (j := 6) rfl
    clear hb1 J1
    go_wp2_with fail
    go_ret
    exact ⟨by rw [He.out]; rfl, HB1.out.1⟩
  by_cases h5 : left - (a0.size : Int) - (X1 : Int) < (X5 : Int)
  · have He := Lib.hid (cutN_no (show left < ((a0.size + X1 + X5 + X6 : Nat) : Int) by omega))
    have J1 := Lib.hid (fun w1 hb => H1.out w1 (left - (a0.size : Int)) hb ⟨by omega, by omega⟩)
    rw [cutN_yes h1] at J1
    have J5 := Lib.hid (fun w1 hb => H5.out w1 (left - (a0.size : Int) - (X1 : Int)) hb ⟨by omega, by omega⟩)
    rw [cutN_no h5] at J5
    clear hX1 H1 hX5 H5 hX6 H6
    go_enter Tryz.func20, Tryz.ntmps20
    go_wp2_with fail
    refine (J1.out _ HB.out.1).mono ?_
    rintro e x1 ⟨rfl, hb1⟩
    have HB1 := Lib.hid (HB.out.below hb1)
    have p5_1 := HB1.out.cell (j := 5) rfl
    have p6_1 := HB1.out.cell (j := 6) rfl
    clear hb1 J1
    go_wp2_with fail
    refine (J5.out _ HB1.out.1).mono ?_
    rintro e x5 ⟨rfl, hb5⟩
    have HB5 := Lib.hid (HB1.out.below hb5)
    have p6_5 := HB5.out.cell (j := 6) rfl
    clear hb5 J5
    go_wp2_with fail
    go_ret
    exact ⟨by rw [He.out]; rfl, HB5.out.1⟩
  by_cases h6 : left - (a0.size : Int) - (X1 : Int) - (X5 : Int) < (X6 : Int)
  · have He := Lib.hid (cutN_no (show left < ((a0.size + X1 + X5 + X6 : Nat) : Int) by omega))
    have J1 := Lib.hid (fun w1 hb => H1.out w1 (left - (a0.size : Int)) hb ⟨by omega, by omega⟩)
    rw [cutN_yes h1] at J1
    have J5 := Lib.hid (fun w1 hb => H5.out w1 (left - (a0.size : Int) - (X1 : Int)) hb ⟨by omega, by omega⟩)
    rw [cutN_yes h5] at J5
    have J6 := Lib.hid (fun w1 hb => H6.out w1 (left - (a0.size : Int) - (X1 : Int) - (X5 : Int)) hb ⟨by omega, by omega⟩)
    rw [cutN_no h6] at J6
    clear hX1 H1 hX5 H5 hX6 H6
    go_enter Tryz.func20, Tryz.ntmps20
    go_wp2_with fail
    refine (J1.out _ HB.out.1).mono ?_
    rintro e x1 ⟨rfl, hb1⟩
    have HB1 := Lib.hid (HB.out.below hb1)
    have p5_1 := HB1.out.cell (j := 5) rfl
    have p6_1 := HB1.out.cell (j := 6) rfl
    clear hb1 J1
    go_wp2_with fail
    refine (J5.out _ HB1.out.1).mono ?_
    rintro e x5 ⟨rfl, hb5⟩
    have HB5 := Lib.hid (HB1.out.below hb5)
    have p6_5 := HB5.out.cell (j := 6) rfl
    clear hb5 J5
    go_wp2_with fail
    refine (J6.out _ HB5.out.1).mono ?_
    rintro e x6 ⟨rfl, hb6⟩
    have HB6 := Lib.hid (HB5.out.below hb6)
    clear hb6 J6
    go_wp2_with fail
    go_ret
    exact ⟨by rw [He.out]; rfl, HB6.out.1⟩
  have He := Lib.hid (cutN_yes (show ¬ left < ((a0.size + X1 + X5 + X6 : Nat) : Int) by omega))
  have He2 := Lib.hid (show left - ((a0.size + X1 + X5 + X6 : Nat) : Int) = left - (a0.size : Int) - (X1 : Int) - (X5 : Int) - (X6 : Int) by omega)
  have J1 := Lib.hid (fun w1 hb => H1.out w1 (left - (a0.size : Int)) hb ⟨by omega, by omega⟩)
  rw [cutN_yes h1] at J1
  have J5 := Lib.hid (fun w1 hb => H5.out w1 (left - (a0.size : Int) - (X1 : Int)) hb ⟨by omega, by omega⟩)
  rw [cutN_yes h5] at J5
  have J6 := Lib.hid (fun w1 hb => H6.out w1 (left - (a0.size : Int) - (X1 : Int) - (X5 : Int)) hb ⟨by omega, by omega⟩)
  rw [cutN_yes h6] at J6
  clear hX1 H1 hX5 H5 hX6 H6
  go_enter Tryz.func20, Tryz.ntmps20
  go_wp2_with fail
  refine (J1.out _ HB.out.1).mono ?_
  rintro e x1 ⟨rfl, hb1⟩
  have HB1 := Lib.hid (HB.out.below hb1)
  have p5_1 := HB1.out.cell (j := 5) rfl
  have p6_1 := HB1.out.cell (j := 6) rfl
  clear hb1 J1
  go_wp2_with fail
  refine (J5.out _ HB1.out.1).mono ?_
  rintro e x5 ⟨rfl, hb5⟩
  have HB5 := Lib.hid (HB1.out.below hb5)
  have p6_5 := HB5.out.cell (j := 6) rfl
  clear hb5 J5
  go_wp2_with fail
  refine (J6.out _ HB5.out.1).mono ?_
  rintro e x6 ⟨rfl, hb6⟩
  have HB6 := Lib.hid (HB5.out.below hb6)
  clear hb6 J6
  go_wp2_with fail
  go_ret
  exact ⟨by rw [He.out, He2.out]; rfl, HB6.out.1⟩
end Go.Proofs.YtcfbkfmkjggcdaaGreatDoor.ty
namespace Go.Proofs.YtcfbkfmkjggcdaaGreatDoor.ty
open Go.ChangeShapes Go.WideShapes Go.ChangeAt Go.RowKit
set_option linter.unusedVariables false

theorem eqStr (l : List ByteArray) (f1 f2 : Nat) (v1 v2 : Value) (w : World) (h1 : Lies w f1 v1 (.sl 1 l.length (l.flatMap Str.row))) (h2 : Lies w f2 v2 (.sl 1 l.length (l.flatMap Str.row))) :
    Calls Tryz.prog 189 #[v1, v2] w fun e w' => e = .returned (.bool true) ∧ Below w.heap.size w w' := by
  obtain ⟨A1, c1, rfl, k1, m1, r1, _⟩ := Str.opened h1
  obtain ⟨A2, c2, rfl, k2, m2, r2, _⟩ := Str.opened h2
  refine (lawStr.eq_yes A1 A2 l.length c1 c2 l w (by omega) rfl r1 r2).mono ?_
  rintro e w1 ⟨rfl, n, rfl⟩
  exact ⟨rfl, below_drewN (Below.refl _ _) n⟩
end Go.Proofs.YtcfbkfmkjggcdaaGreatDoor.ty
namespace Go.Proofs.YtcfbkfmkjggcdaaGreatDoor.ty
open Go.ChangeShapes Go.WideShapes Go.ChangeAt Go.RowKit
set_option linter.unusedVariables false

theorem eqNeed (x : Need) (f1 f2 : Nat) (vs us : List Value) (w : World) (h1 : LiesS w f1 vs x.row) (h2 : LiesS w f2 us x.row) :
    Calls Tryz.prog 132 #[.agg vs.toArray, .agg us.toArray] w fun e w' => e = .returned (.bool true) ∧ Below w.heap.size w w' := by
  obtain ⟨a0, a1, a2⟩ := x
  obtain ⟨A2, c2, rfl, hwf, k2, m2, l2⟩ := Need.opened h1
  obtain ⟨B2, d2, rfl, hwf2, k2_, m2_, r2⟩ := Need.opened h2
  simp only at *
  have HB1 := Lib.hid (Box.new 69 w [.string a0, .int .i64 a1, .slice A2 a2.length c2])
  have HB2 := Lib.hid (HB1.out.below ((Below.refl _ _).alloc (Nat.le_refl _) (.cells #[.string a0, .int .i64 a1, .slice B2 a2.length d2] 69)))
  have HB3 := Lib.hid (Box.new 69 (w.alloc (.cells #[.string a0, .int .i64 a1, .slice A2 a2.length c2] 69)) [.string a0, .int .i64 a1, .slice B2 a2.length d2])
  have hsz : (w.alloc (.cells #[.string a0, .int .i64 a1, .slice A2 a2.length c2] 69)).heap.size = w.heap.size + 1 := by simp
  have E2 := Lib.hid (fun w1 (hb : Below w.heap.size w w1) => eqStr a2 f1 f2 (.slice A2 a2.length c2) (.slice B2 a2.length d2) w1 (l2.below hb) (r2.below hb))
  have p0 := HB2.out.cell (j := 0) rfl
  have p1 := HB2.out.cell (j := 1) rfl
  have p2 := HB2.out.cell (j := 2) rfl
  have q0 := HB3.out.cell (j := 0) rfl
  have q1 := HB3.out.cell (j := 1) rfl
  have q2 := HB3.out.cell (j := 2) rfl
  rw [hsz] at q0 q1 q2
  have hq := HB3.out.2
  rw [hsz] at hq
  have Hq := Lib.hid hq
  have Hp := Lib.hid HB2.out.2
  have Hbb := Lib.hid HB2.out.1
  clear h1 h2 hwf hwf2 HB1 HB2 HB3 hq hsz l2 r2 k2 m2 k2_ m2_
  go_enter Tryz.func132, Tryz.ntmps132
  go_wp2_with fail
  refine (E2.out _ Hbb.out).mono ?_
  rintro e y2 ⟨rfl, b2⟩
  have Hbb2 := Lib.hid (Hbb.out.trans (b2.mono Hbb.out.size))
  clear p0 p1 p2 q0 q1 q2
  clear b2
  go_wp2_with fail
  go_ret
  exact ⟨rfl, Hbb2.out⟩
end Go.Proofs.YtcfbkfmkjggcdaaGreatDoor.ty
namespace Go.Proofs.YtcfbkfmkjggcdaaGreatDoor.ty
open Go.ChangeShapes Go.WideShapes Go.ChangeAt Go.RowKit
set_option linter.unusedVariables false

set_option maxRecDepth 100000 in
theorem eqNeedS (l : List Need) (f1 f2 : Nat) (v1 v2 : Value) (w : World) (h1 : Lies w f1 v1 (.sl 3 l.length (l.flatMap Need.row))) (h2 : Lies w f2 v2 (.sl 3 l.length (l.flatMap Need.row))) :
    Calls Tryz.prog 68 #[v1, v2] w fun e w' => e = .returned (.bool true) ∧ Below w.heap.size w w' := by
  obtain ⟨A1, c1, rfl, hc1, hm1, f', rfl, hk1⟩ := els_of Need.row_length h1
  obtain ⟨A2, c2, rfl, hc2, hm2, f'', rfl, hk2⟩ := els_of Need.row_length h2
  unfold maxLen at hm1 hm2
  have Hk1 := Lib.hid hk1
  have Hk2 := Lib.hid hk2
  clear h1 h2 hk1 hk2
  go_enter Tryz.func68, Tryz.ntmps68
  go_wp2_with fail
  go_loopw [5] (fun i wr => ∃ (j : Nat), j ≤ l.length ∧ i = .int .i64 j ∧ Below w.heap.size w wr) (fun i _ => l.length - (intOf i).toNat)
  case atStart => exact ⟨0, Nat.zero_le _, rfl, Below.refl _ _⟩
  case round =>
    obtain ⟨j, hj, rfl, hbel⟩ := hrel
    by_cases hlt : j < l.length
    · obtain ⟨g1, o1, rfl, hg1, us, hus1, hcc1, hls1⟩ := (Hk1.out.below hbel).get hlt
      obtain ⟨g2, o2, rfl, hg2, us2, hus2, hcc2, hls2⟩ := (Hk2.out.below hbel).get hlt
      have HC := Lib.hid (fun w1 (hb : Below wr.heap.size wr w1) => eqNeed l[j] _ _ us us2 w1 (hls1.kept hb.block) (hls2.kept hb.block))
      obtain ⟨A2, c2, rfl, hwf, k2, m2, l2⟩ := Need.opened hls1
      obtain ⟨B2, d2, rfl, hwf2, k2_, m2_, r2⟩ := Need.opened hls2
      have q0 : wr.cell? ⟨g1, o1 + j * 3, none⟩ = some (.string l[j].key) := hcc1 0 _ rfl
      have q1 : wr.cell? ⟨g1, o1 + j * 3 + 1, none⟩ = some (.int .i64 l[j].op) := hcc1 1 _ rfl
      have q2 : wr.cell? ⟨g1, o1 + j * 3 + 2, none⟩ = some (.slice A2 l[j].values.length c2) := hcc1 2 _ rfl
      have s0 : wr.cell? ⟨g2, o2 + j * 3, none⟩ = some (.string l[j].key) := hcc2 0 _ rfl
      have s1 : wr.cell? ⟨g2, o2 + j * 3 + 1, none⟩ = some (.int .i64 l[j].op) := hcc2 1 _ rfl
      have s2 : wr.cell? ⟨g2, o2 + j * 3 + 2, none⟩ = some (.slice B2 l[j].values.length d2) := hcc2 2 _ rfl
      have Hbel := Lib.hid hbel
      clear hls1 hls2 hbel hg1 hg2 hus1 hus2 hcc1 hcc2 hwf hwf2 l2 r2 k2 m2 k2_ m2_
      generalize l[j] = x at HC q0 s0 q1 s1 q2 s2
      go_wp2_with fail
      go_region_law (go_simp; go_at_call 132; refine (HC.out _ (Below.refl _ _).drew).mono ?_; rintro e w1 ⟨rfl, hb1⟩)
      all_goals
        have hbel1 := Hbel.out.trans (((Below.refl _ _).drew.trans (hb1.mono (Nat.le_refl _))).mono Hbel.out.size)
        clear hb1 q0 s0 q1 s1 q2 s2
        go_wp2_with fail
        go_roundw
        case rel => exact ⟨j + 1, by omega, by go_num, hbel1⟩
        case measure => simp [intOf]; omega
    · obtain rfl : j = l.length := by omega
      have Hbel := Lib.hid hbel
      clear hbel
      go_wp2_with fail
      go_ret
      exact ⟨rfl, Hbel.out⟩
end Go.Proofs.YtcfbkfmkjggcdaaGreatDoor.ty
namespace Go.Proofs.YtcfbkfmkjggcdaaGreatDoor.ty
open Go.ChangeShapes Go.WideShapes Go.ChangeAt Go.RowKit
set_option linter.unusedVariables false

theorem eqTolerance (x : Tolerance) (w : World) :
    Calls Tryz.prog 133 #[.agg #[.string x.key, .bool x.equal, .string x.value, .int .i64 x.effect], .agg #[.string x.key, .bool x.equal, .string x.value, .int .i64 x.effect]] w fun e w' => e = .returned (.bool true) ∧ Below w.heap.size w w' := by
  obtain ⟨a0, a1, a2, a3⟩ := x
  simp only
  have Hb : Hid (∀ (a b : Obj), Below w.heap.size w ((w.alloc a).alloc b)) := fun a b => ((Below.refl _ _).alloc (Nat.le_refl _) a).alloc (by simp) b
  go_enter Tryz.func133, Tryz.ntmps133
  go_wp2_with fail
  go_ret
  exact ⟨rfl, Hb.out _ _⟩
end Go.Proofs.YtcfbkfmkjggcdaaGreatDoor.ty
namespace Go.Proofs.YtcfbkfmkjggcdaaGreatDoor.ty
open Go.ChangeShapes Go.WideShapes Go.ChangeAt Go.RowKit
set_option linter.unusedVariables false

set_option maxRecDepth 100000 in
theorem eqToleranceS (l : List Tolerance) (f1 f2 : Nat) (v1 v2 : Value) (w : World) (h1 : Lies w f1 v1 (.sl 4 l.length (l.flatMap Tolerance.row))) (h2 : Lies w f2 v2 (.sl 4 l.length (l.flatMap Tolerance.row))) :
    Calls Tryz.prog 69 #[v1, v2] w fun e w' => e = .returned (.bool true) ∧ Below w.heap.size w w' := by
  obtain ⟨A1, c1, rfl, hc1, hm1, f', rfl, hk1⟩ := els_of Tolerance.row_length h1
  obtain ⟨A2, c2, rfl, hc2, hm2, f'', rfl, hk2⟩ := els_of Tolerance.row_length h2
  unfold maxLen at hm1 hm2
  have Hk1 := Lib.hid hk1
  have Hk2 := Lib.hid hk2
  clear h1 h2 hk1 hk2
  go_enter Tryz.func69, Tryz.ntmps69
  go_wp2_with fail
  go_loopw [5] (fun i wr => ∃ (j : Nat), j ≤ l.length ∧ i = .int .i64 j ∧ Below w.heap.size w wr) (fun i _ => l.length - (intOf i).toNat)
  case atStart => exact ⟨0, Nat.zero_le _, rfl, Below.refl _ _⟩
  case round =>
    obtain ⟨j, hj, rfl, hbel⟩ := hrel
    by_cases hlt : j < l.length
    · obtain ⟨g1, o1, rfl, hg1, us, hus1, hcc1, hls1⟩ := (Hk1.out.below hbel).get hlt
      obtain ⟨g2, o2, rfl, hg2, us2, hus2, hcc2, hls2⟩ := (Hk2.out.below hbel).get hlt
      obtain ⟨rfl, hwf1⟩ := Tolerance.opened hls1
      obtain ⟨rfl, hwf2⟩ := Tolerance.opened hls2
      have q0 : wr.cell? ⟨g1, o1 + j * 4, none⟩ = some (.string l[j].key) := hcc1 0 _ rfl
      have q1 : wr.cell? ⟨g1, o1 + j * 4 + 1, none⟩ = some (.bool l[j].equal) := hcc1 1 _ rfl
      have q2 : wr.cell? ⟨g1, o1 + j * 4 + 2, none⟩ = some (.string l[j].value) := hcc1 2 _ rfl
      have q3 : wr.cell? ⟨g1, o1 + j * 4 + 3, none⟩ = some (.int .i64 l[j].effect) := hcc1 3 _ rfl
      have r0 : wr.cell? ⟨g2, o2 + j * 4, none⟩ = some (.string l[j].key) := hcc2 0 _ rfl
      have r1 : wr.cell? ⟨g2, o2 + j * 4 + 1, none⟩ = some (.bool l[j].equal) := hcc2 1 _ rfl
      have r2 : wr.cell? ⟨g2, o2 + j * 4 + 2, none⟩ = some (.string l[j].value) := hcc2 2 _ rfl
      have r3 : wr.cell? ⟨g2, o2 + j * 4 + 3, none⟩ = some (.int .i64 l[j].effect) := hcc2 3 _ rfl
      have HC := Lib.hid (fun w1 => eqTolerance l[j] w1)
      have Hbel := Lib.hid hbel
      clear hls1 hls2 hbel hg1 hg2 hus1 hus2 hcc1 hcc2 hwf1 hwf2
      generalize l[j] = x at HC q0 q1 q2 q3 r0 r1 r2 r3
      go_wp2_with fail
      go_region_law (go_simp; go_at_call 133; refine (HC.out _).mono ?_; rintro e w1 ⟨rfl, hb1⟩)
      all_goals
        have hbel1 := Hbel.out.trans (((Below.refl _ _).drew.trans (hb1.mono (Nat.le_refl _))).mono Hbel.out.size)
        clear hb1 q0 q1 q2 q3 r0 r1 r2 r3
        go_wp2_with fail
        go_roundw
        case rel => exact ⟨j + 1, by omega, by go_num, hbel1⟩
        case measure => simp [intOf]; omega
    · obtain rfl : j = l.length := by omega
      have Hbel := Lib.hid hbel
      clear hbel
      go_wp2_with fail
      go_ret
      exact ⟨rfl, Hbel.out⟩
end Go.Proofs.YtcfbkfmkjggcdaaGreatDoor.ty
namespace Go.Proofs.YtcfbkfmkjggcdaaGreatDoor.ty
open Go.ChangeShapes Go.WideShapes Go.ChangeAt Go.RowKit
set_option linter.unusedVariables false

theorem eqPod (x : Pod) (f1 f2 : Nat) (vs us : List Value) (w : World) (h1 : LiesS w f1 vs x.row) (h2 : LiesS w f2 us x.row) :
    Calls Tryz.prog 22 #[.agg vs.toArray, .agg us.toArray] w fun e w' => e = .returned (.bool true) ∧ Below w.heap.size w w' := by
  obtain ⟨a0, a1, a2, a3, a4, a5, a6⟩ := x
  obtain ⟨A1, c1, A5, c5, A6, c6, rfl, hwf, k1, m1, l1, k5, m5, l5, k6, m6, l6⟩ := Pod.opened h1
  obtain ⟨B1, d1, B5, d5, B6, d6, rfl, hwf2, k1_, m1_, r1, k5_, m5_, r5, k6_, m6_, r6⟩ := Pod.opened h2
  simp only at *
  have HB1 := Lib.hid (Box.new 28 w [.string a0, .slice A1 a1.length c1, .int .i64 a2, .int .i64 a3, .int .i64 a4, .slice A5 a5.length c5, .slice A6 a6.length c6])
  have HB2 := Lib.hid (HB1.out.below ((Below.refl _ _).alloc (Nat.le_refl _) (.cells #[.string a0, .slice B1 a1.length d1, .int .i64 a2, .int .i64 a3, .int .i64 a4, .slice B5 a5.length d5, .slice B6 a6.length d6] 28)))
  have HB3 := Lib.hid (Box.new 28 (w.alloc (.cells #[.string a0, .slice A1 a1.length c1, .int .i64 a2, .int .i64 a3, .int .i64 a4, .slice A5 a5.length c5, .slice A6 a6.length c6] 28)) [.string a0, .slice B1 a1.length d1, .int .i64 a2, .int .i64 a3, .int .i64 a4, .slice B5 a5.length d5, .slice B6 a6.length d6])
  have hsz : (w.alloc (.cells #[.string a0, .slice A1 a1.length c1, .int .i64 a2, .int .i64 a3, .int .i64 a4, .slice A5 a5.length c5, .slice A6 a6.length c6] 28)).heap.size = w.heap.size + 1 := by simp
  have E1 := Lib.hid (fun w1 (hb : Below w.heap.size w w1) => eqLabelS a1 f1 f2 (.slice A1 a1.length c1) (.slice B1 a1.length d1) w1 (l1.below hb) (r1.below hb))
  have E5 := Lib.hid (fun w1 (hb : Below w.heap.size w w1) => eqNeedS a5 f1 f2 (.slice A5 a5.length c5) (.slice B5 a5.length d5) w1 (l5.below hb) (r5.below hb))
  have E6 := Lib.hid (fun w1 (hb : Below w.heap.size w w1) => eqToleranceS a6 f1 f2 (.slice A6 a6.length c6) (.slice B6 a6.length d6) w1 (l6.below hb) (r6.below hb))
  have p0 := HB2.out.cell (j := 0) rfl
  have p1 := HB2.out.cell (j := 1) rfl
  have p2 := HB2.out.cell (j := 2) rfl
  have p3 := HB2.out.cell (j := 3) rfl
  have p4 := HB2.out.cell (j := 4) rfl
  have p5 := HB2.out.cell (j := 5) rfl
  have p6 := HB2.out.cell (j := 6) rfl
  have q0 := HB3.out.cell (j := 0) rfl
  have q1 := HB3.out.cell (j := 1) rfl
  have q2 := HB3.out.cell (j := 2) rfl
  have q3 := HB3.out.cell (j := 3) rfl
  have q4 := HB3.out.cell (j := 4) rfl
  have q5 := HB3.out.cell (j := 5) rfl
  have q6 := HB3.out.cell (j := 6) rfl
  rw [hsz] at q0 q1 q2 q3 q4 q5 q6
  have hq := HB3.out.2
  rw [hsz] at hq
  have Hq := Lib.hid hq
  have Hp := Lib.hid HB2.out.2
  have Hbb := Lib.hid HB2.out.1
  clear h1 h2 hwf hwf2 HB1 HB2 HB3 hq hsz l1 r1 k1 m1 k1_ m1_ l5 r5 k5 m5 k5_ m5_ l6 r6 k6 m6 k6_ m6_
  go_enter Tryz.func22, Tryz.ntmps22
  go_wp2_with fail
  refine (E1.out _ Hbb.out).mono ?_
  rintro e y1 ⟨rfl, b1⟩
  have Hbb1 := Lib.hid (Hbb.out.trans (b1.mono Hbb.out.size))
  clear p0 p1 p2 p3 p4 p5 p6 q0 q1 q2 q3 q4 q5 q6
  have Hp1 := Lib.hid (heap_kept b1 (heap_lt Hp.out) Hp.out)
  have Hq1 := Lib.hid (heap_kept b1 (heap_lt Hq.out) Hq.out)
  have p2_1 : y1.cell? ⟨w.heap.size, 2, none⟩ = some (.int .i64 a2) := by rw [cell_of_row _ _ 2 _ _ _ Hp1.out]; rfl
  have q2_1 : y1.cell? ⟨w.heap.size + 1, 2, none⟩ = some (.int .i64 a2) := by rw [cell_of_row _ _ 2 _ _ _ Hq1.out]; rfl
  have p3_1 : y1.cell? ⟨w.heap.size, 3, none⟩ = some (.int .i64 a3) := by rw [cell_of_row _ _ 3 _ _ _ Hp1.out]; rfl
  have q3_1 : y1.cell? ⟨w.heap.size + 1, 3, none⟩ = some (.int .i64 a3) := by rw [cell_of_row _ _ 3 _ _ _ Hq1.out]; rfl
  have p4_1 : y1.cell? ⟨w.heap.size, 4, none⟩ = some (.int .i64 a4) := by rw [cell_of_row _ _ 4 _ _ _ Hp1.out]; rfl
  have q4_1 : y1.cell? ⟨w.heap.size + 1, 4, none⟩ = some (.int .i64 a4) := by rw [cell_of_row _ _ 4 _ _ _ Hq1.out]; rfl
  have p5_1 : y1.cell? ⟨w.heap.size, 5, none⟩ = some (.slice A5 a5.length c5) := by rw [cell_of_row _ _ 5 _ _ _ Hp1.out]; rfl
  have q5_1 : y1.cell? ⟨w.heap.size + 1, 5, none⟩ = some (.slice B5 a5.length d5) := by rw [cell_of_row _ _ 5 _ _ _ Hq1.out]; rfl
  have p6_1 : y1.cell? ⟨w.heap.size, 6, none⟩ = some (.slice A6 a6.length c6) := by rw [cell_of_row _ _ 6 _ _ _ Hp1.out]; rfl
  have q6_1 : y1.cell? ⟨w.heap.size + 1, 6, none⟩ = some (.slice B6 a6.length d6) := by rw [cell_of_row _ _ 6 _ _ _ Hq1.out]; rfl
  clear b1
  go_wp2_with fail
  refine (E5.out _ Hbb1.out).mono ?_
  rintro e y5 ⟨rfl, b5⟩
  have Hbb5 := Lib.hid (Hbb1.out.trans (b5.mono Hbb1.out.size))
  clear p2_1 q2_1 p3_1 q3_1 p4_1 q4_1 p5_1 q5_1 p6_1 q6_1
  have Hp5 := Lib.hid (heap_kept b5 (heap_lt Hp1.out) Hp1.out)
  have Hq5 := Lib.hid (heap_kept b5 (heap_lt Hq1.out) Hq1.out)
  have p6_5 : y5.cell? ⟨w.heap.size, 6, none⟩ = some (.slice A6 a6.length c6) := by rw [cell_of_row _ _ 6 _ _ _ Hp5.out]; rfl
  have q6_5 : y5.cell? ⟨w.heap.size + 1, 6, none⟩ = some (.slice B6 a6.length d6) := by rw [cell_of_row _ _ 6 _ _ _ Hq5.out]; rfl
  clear b5
  go_wp2_with fail
  refine (E6.out _ Hbb5.out).mono ?_
  rintro e y6 ⟨rfl, b6⟩
  have Hbb6 := Lib.hid (Hbb5.out.trans (b6.mono Hbb5.out.size))
  clear p6_5 q6_5
  clear b6
  go_wp2_with fail
  go_ret
  exact ⟨rfl, Hbb6.out⟩
end Go.Proofs.YtcfbkfmkjggcdaaGreatDoor.ty
namespace Go.Proofs.YtcfbkfmkjggcdaaGreatDoor.need
open Go Go.RowKit ty lab dedup
set_option linter.unusedVariables false

/-- What slices.Compare gives. -/
def cmpV : List ByteArray → List ByteArray → Int
  | [], [] => 0
  | [], _ :: _ => -1
  | _ :: _, [] => 1
  | a :: x, b :: y => if cmpB a b = 0 then cmpV x y else cmpB a b
theorem cmpV_at : ∀ {a b : List ByteArray} {k : Nat} (h1 : k < a.length) (h2 : k < b.length), (∀ j (hj : j < k), (a[j]'(by omega)) = (b[j]'(by omega))) → cmpB a[k] b[k] ≠ 0 → cmpV a b = cmpB a[k] b[k]
  | [], _, _, h, _, _, _ => by simp at h
  | _ :: _, [], _, _, h, _, _ => by simp at h
  | x :: a, y :: b, 0, _, _, _, hne => by
    rw [cmpV, if_neg (by simpa using hne)]; rfl
  | x :: a, y :: b, k + 1, h1, h2, he, hne => by
    have h0 : x = y := he 0 (by omega)
    rw [cmpV, if_pos (by rw [h0]; exact cmpB_self _)]
    exact cmpV_at (k := k) (by simpa using h1) (by simpa using h2) (fun j hj => by have := he (j + 1) (by omega); simpa using this) (by simpa using hne)
theorem cmpV_end : ∀ {a b : List ByteArray}, (∀ j (h1 : j < a.length) (h2 : j < b.length), a[j] = b[j]) → cmpV a b = if b.length < a.length then 1 else if a.length < b.length then -1 else 0
  | [], [], _ => rfl
  | [], _ :: _, _ => by simp [cmpV]
  | _ :: _, [], _ => by simp [cmpV]
  | x :: a, y :: b, h => by
    have h0 : x = y := h 0 (by simp) (by simp)
    rw [cmpV, if_pos (by rw [h0]; exact cmpB_self _), cmpV_end (a := a) (b := b) (fun j h1 h2 => by have := h (j + 1) (by simpa using h1) (by simpa using h2); simpa using this)]
    simp
theorem cmpV_way : ∀ a b : List ByteArray, cmpV a b = 0 ∧ a = b ∨ cmpV a b < 0 ∧ a ≠ b ∧ lessV a b = true ∨ 0 < cmpV a b ∧ a ≠ b ∧ lessV a b = false
  | [], [] => .inl ⟨rfl, rfl⟩
  | [], _ :: _ => .inr (.inl ⟨by rw [cmpV]; decide, by simp, rfl⟩)
  | _ :: _, [] => .inr (.inr ⟨by rw [cmpV]; decide, by simp, rfl⟩)
  | a :: x, b :: y => by
    rw [cmpV, lessV]
    rcases cmpB_way a b with ⟨h1, h2⟩ | ⟨h1, h2, h3⟩ | ⟨h1, h2, h3⟩
    · rw [if_pos h1, if_pos h2]
      subst h2
      rcases cmpV_way x y with ⟨g1, g2⟩ | ⟨g1, g2, g3⟩ | ⟨g1, g2, g3⟩
      · exact .inl ⟨g1, by rw [g2]⟩
      · exact .inr (.inl ⟨g1, by simpa using g2, g3⟩)
      · exact .inr (.inr ⟨g1, by simpa using g2, g3⟩)
    · rw [if_neg (by omega), if_neg h2]
      exact .inr (.inl ⟨h1, by simp [h2], h3⟩)
    · rw [if_neg (by omega), if_neg h2]
      exact .inr (.inr ⟨h1, by simp [h2], h3⟩)
def cmpN (a b : Need) : Int := orI (cmpB a.key b.key) (arith.cmpF a.op b.op) (cmpV a.values b.values)
theorem need_ext {a b : Need} (h1 : a.key = b.key) (h2 : a.op = b.op) (h3 : a.values = b.values) : a = b := by
  cases a; cases b
  simp only at h1 h2 h3
  rw [h1, h2, h3]
theorem cmpN_way (a b : Need) : cmpN a b = 0 ∧ a = b ∨ cmpN a b < 0 ∧ a ≠ b ∧ lessN a b = true ∨ 0 < cmpN a b ∧ a ≠ b ∧ lessN a b = false := by
  unfold cmpN lessN orI arith.cmpF
  rcases cmpB_way a.key b.key with ⟨h1, h2⟩ | ⟨h1, h2, h3⟩ | ⟨h1, h2, h3⟩
  · rw [if_pos h1, if_pos h2]
    by_cases ho : a.op = b.op
    · rw [if_neg (show ¬ a.op < b.op by omega), if_neg (show ¬ b.op < a.op by omega), if_pos rfl, if_pos ho]
      rcases cmpV_way a.values b.values with ⟨g1, g2⟩ | ⟨g1, g2, g3⟩ | ⟨g1, g2, g3⟩
      · exact .inl ⟨g1, need_ext h2 ho g2⟩
      · exact .inr (.inl ⟨g1, fun e => g2 (by rw [e]), g3⟩)
      · exact .inr (.inr ⟨g1, fun e => g2 (by rw [e]), g3⟩)
    · rw [if_neg ho]
      by_cases h : a.op < b.op
      · rw [if_pos h]
        exact .inr (.inl ⟨by rw [if_neg (by omega)]; omega, fun e => ho (by rw [e]), decide_eq_true h⟩)
      · rw [if_neg h, if_pos (show b.op < a.op by omega)]
        exact .inr (.inr ⟨by rw [if_neg (by omega)]; omega, fun e => ho (by rw [e]), decide_eq_false h⟩)
  · rw [if_neg (by omega), if_neg h2]
    exact .inr (.inl ⟨h1, fun e => h2 (by rw [e]), h3⟩)
  · rw [if_neg (by omega), if_neg h2]
    exact .inr (.inr ⟨h1, fun e => h2 (by rw [e]), h3⟩)
theorem cmpN_less (a b : Need) : decide (cmpN a b < 0) = lessN a b := by
  rcases cmpN_way a b with ⟨h1, h2⟩ | ⟨h1, _, h3⟩ | ⟨h1, _, h3⟩
  · subst h2; rw [h1, lessN_irr]; rfl
  · rw [h3]; exact decide_eq_true h1
  · rw [h3]; exact decide_eq_false (by omega)
theorem cmpN_zero (a b : Need) : decide (cmpN a b = 0) = yes (a = b) := by
  rcases cmpN_way a b with ⟨h1, h2⟩ | ⟨h1, h2, h3⟩ | ⟨h1, h2, h3⟩
  · rw [yes_t h2]; exact decide_eq_true h1
  · rw [yes_f h2]; exact decide_eq_false (by omega)
  · rw [yes_f h2]; exact decide_eq_false (by omega)
end Go.Proofs.YtcfbkfmkjggcdaaGreatDoor.need
