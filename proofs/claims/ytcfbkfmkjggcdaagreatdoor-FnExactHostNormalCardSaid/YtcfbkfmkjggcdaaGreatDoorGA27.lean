/- Merged: HdHost SzTaint SzTaintS SzHost EqTaint EqTaintS EqHost TaintI CmpTI AscTaint OksTaintI. -/
import Derived.Test.YtcfbkfmkjggcdaaGreatDoorGA8
import Derived.Test.YtcfbkfmkjggcdaaGreatDoorGA6
import Derived.Test.YtcfbkfmkjggcdaaGreatDoorGA7
import Derived.Test.YtcfbkfmkjggcdaaGreatDoorGA26
import Derived.Test.YtcfbkfmkjggcdaaGreatDoorRows
import Derived.ProofKit
import Derived.OpenShut
import Derived.Test.YtcfbkfmkjggcdaaGreatDoorGA4
import Derived.Test.YtcfbkfmkjggcdaaGreatDoorGA9
import Derived.Test.YtcfbkfmkjggcdaaGreatDoorGA5
import Derived.Test.YtcfbkfmkjggcdaaGreatDoorGA25
import Derived.Test.YtcfbkfmkjggcdaaGreatDoorGA1
import Derived.Test.YtcfbkfmkjggcdaaGreatDoorGA2
import Derived.Laws.Cover1
namespace Go.Proofs.YtcfbkfmkjggcdaaGreatDoor.ty
open Go.ChangeShapes Go.WideShapes Go.ChangeAt Go.RowKit
set_option linter.unusedVariables false

set_option maxRecDepth 100000 in
set_option maxHeartbeats 16000000 in
theorem hdHost (x : Host) (f : Nat) (us : List Value) (k : Int) (w : World) (h : LiesS w f us (x.stamp k).row) (h0 : 0 ≤ k) (hk : k + (x.kost : Nat) ≤ 4611686018427387904) :
    Calls Tryz.prog 29 #[.agg us.toArray, .int .i64 k] w fun e w' => e = .returned (.int .i64 (k + (x.kost : Nat))) ∧ Below w.heap.size w w' := by
  obtain ⟨a0, a1, a2, a3, a4, a5⟩ := x
  rw [Host.row_stamp] at h
  rw [Host.kost_eq] at hk ⊢
  obtain ⟨v0, us, rfl, l0, h⟩ := h.uncons
  obtain ⟨v1, us, rfl, l1, h⟩ := h.uncons
  obtain ⟨v2, us, rfl, l2, h⟩ := h.uncons
  obtain ⟨v3, us, rfl, l3, h⟩ := h.uncons
  obtain ⟨v4, us, rfl, l4, h⟩ := h.uncons
  obtain ⟨v5, us, rfl, l5, h⟩ := h.uncons
  obtain rfl := h.unnil
  obtain ⟨rfl, _⟩ := l0.str
  obtain ⟨A1, c1, rfl, _, _, _⟩ := l1.sl
  obtain ⟨rfl, _⟩ := l2.int
  obtain ⟨rfl, _⟩ := l3.int
  obtain ⟨rfl, _⟩ := l4.int
  obtain ⟨A5, c5, rfl, _, _, _⟩ := l5.sl
  obtain ⟨w1, hw1⟩ : ∃ w1, w1 = w.alloc (.cells #[.string a0, .slice A1 a1.length c1, .int .i64 a2, .int .i64 a3, .int .i64 a4, .slice A5 a5.length c5] 32) := ⟨_, rfl⟩
  have hb1 : Below w.heap.size w w1 := by rw [hw1]; exact (Below.refl _ _).alloc (Nat.le_refl _) _
  have R1 := Lib.hid (show RowE 32 w1 w.heap.size [.string a0, .slice A1 a1.length c1, .int .i64 a2, .int .i64 a3, .int .i64 a4, .slice A5 a5.length c5] by rw [hw1]; exact RowE.new _ _ _)
  have p1 := R1.out.cell 1 _ rfl
  have C1 : 0 ≤ k ∧ k + (wsum Label.cost a1 : Nat) ≤ 4611686018427387904 := by constructor <;> omega
  have N1 : ¬ k + (wsum Label.cost a1 : Nat) < 0 := by omega
  have T1 := Lib.hid (fun w' (hb : Below w.heap.size w w') => hdLabelS a1 f (.slice A1 a1.length c1) (k) w' (l1.below hb) C1.1 C1.2)
  have C5 : 0 ≤ k + (wsum Label.cost a1 : Nat) ∧ k + (wsum Label.cost a1 : Nat) + (wsum Taint.cost a5 : Nat) ≤ 4611686018427387904 := by constructor <;> omega
  have N5 : ¬ k + (wsum Label.cost a1 : Nat) + (wsum Taint.cost a5 : Nat) < 0 := by omega
  have T5 := Lib.hid (fun w' (hb : Below w.heap.size w w') => hdTaintS a5 f (.slice A5 a5.length c5) (k + (wsum Label.cost a1 : Nat)) w' (l5.below hb) C5.1 C5.2)
  have Hb1 := Lib.hid hb1
  have Hw1 := Lib.hid hw1
  clear h0 hk hb1 hw1 C1 C5 l1 l5
  go_enter Tryz.func29, Tryz.ntmps29
  go_wp2_with fail
  rw [← Hw1.out]
  clear Hw1
  refine (T1.out _ Hb1.out).mono ?_
  rintro e y1 ⟨rfl, b1⟩
  have Hb11 := Lib.hid (below_link Hb1.out b1 Hb1.out.size)
  have R11 := Lib.hid (R1.out.below b1)
  clear b1 p1
  have p5 := R11.out.cell 5 _ rfl
  go_wp2_with fail
  refine (T5.out _ Hb11.out).mono ?_
  rintro e y5 ⟨rfl, b5⟩
  have Hb15 := Lib.hid (below_link Hb11.out b5 Hb11.out.size)
  have R15 := Lib.hid (R11.out.below b5)
  clear b5 p5
  go_wp2_with fail
  go_ret
  exact ⟨rfl, Hb15.out⟩
end Go.Proofs.YtcfbkfmkjggcdaaGreatDoor.ty
namespace Go.Proofs.YtcfbkfmkjggcdaaGreatDoor.ty
open Go.ChangeShapes Go.WideShapes Go.ChangeAt Go.RowKit
set_option linter.unusedVariables false

theorem szTaint (x : Taint) (left : Int) (w : World) (hx : x.Wf) (hl : LeftN left) :
    Calls Tryz.prog 137 #[.agg #[.string x.key, .string x.value, .int .i64 x.effect], .int .i64 left] w fun e w' => e = .returned (.int .i64 (cutN left x.wt)) ∧ Below w.heap.size w w' := by
  obtain ⟨a0, a1, a2⟩ := x
  obtain ⟨w0, w1, w2⟩ := hx
  simp only at *
  unfold maxLen at w0 w1
  unfold LeftN at hl
  rw [show Taint.wt ⟨a0, a1, a2⟩ = a0.size + a1.size from rfl]
  have Hb := Lib.hid ((Below.refl w.heap.size w).alloc (Nat.le_refl _) (.cells #[.string a0, .string a1, .int .i64 a2] 157))
  by_cases h0 : left < (a0.size : Int)
  · have He := Lib.hid (cutN_no (show left < ((a0.size + a1.size : Nat) : Int) by omega))
    go_enter Tryz.func137, Tryz.ntmps137
    go_wp2_with fail
    go_ret
    exact ⟨by rw [He.out]; rfl, Hb.out⟩
  by_cases h1 : left - a0.size < (a1.size : Int)
  · have He := Lib.hid (cutN_no (show left < ((a0.size + a1.size : Nat) : Int) by omega))
    go_enter Tryz.func137, Tryz.ntmps137
    go_wp2_with fail
    go_ret
    exact ⟨by rw [He.out]; rfl, Hb.out⟩
  have He := Lib.hid (cutN_yes (show ¬ left < ((a0.size + a1.size : Nat) : Int) by omega))
  have He2 := Lib.hid (show left - ((a0.size + a1.size : Nat) : Int) = left - a0.size - a1.size by omega)
  go_enter Tryz.func137, Tryz.ntmps137
  go_wp2_with fail
  go_ret
  exact ⟨by rw [He.out, He2.out]; rfl, Hb.out⟩
end Go.Proofs.YtcfbkfmkjggcdaaGreatDoor.ty
namespace Go.Proofs.YtcfbkfmkjggcdaaGreatDoor.ty
open Go.ChangeShapes Go.WideShapes Go.ChangeAt Go.RowKit
set_option linter.unusedVariables false

theorem szTaintS (l : List Taint) (f : Nat) (v : Value) (left : Int) (w : World) (h : Lies w f v (.sl 3 l.length (l.flatMap Taint.row))) (hl : LeftN left) :
    Calls Tryz.prog 76 #[v, .int .i64 left] w fun e w' => e = .returned (.int .i64 (cutN left (l.length + wsum Taint.wt l))) ∧ Below w.heap.size w w' := by
  obtain ⟨A, c, rfl, hc1, hc2, f', rfl, hk⟩ := els_of Taint.row_length h
  unfold maxLen at hc2
  unfold LeftN at hl
  have Hk := Lib.hid hk
  clear h hk
  by_cases h0 : left < l.length
  · have He := Lib.hid (cutN_no (show left < ((l.length + wsum Taint.wt l : Nat) : Int) by omega))
    go_enter Tryz.func76, Tryz.ntmps76
    go_wp2_with fail
    go_ret
    exact ⟨by rw [He.out]; rfl, Below.refl _ _⟩
  go_enter Tryz.func76, Tryz.ntmps76
  go_wp2_with fail
  go_loopw [1, 5] (fun a i wr => ∃ (j : Nat) (z : Int), j ≤ l.length ∧ i = .int .i64 j ∧ a = .int .i64 z ∧ 0 ≤ z ∧ z ≤ 1048576 ∧ Hid (z = left - l.length - wsum Taint.wt (l.take j)) ∧ Below w.heap.size w wr) (fun _ i _ => l.length - (intOf i).toNat)
  case atStart => exact ⟨0, left - l.length, Nat.zero_le _, rfl, rfl, by omega, by omega, by unfold Hid; simp [wsum], Below.refl _ _⟩
  case round =>
    obtain ⟨j, z, hj, rfl, rfl, hz0, hz1, hin, hbel⟩ := hrel
    by_cases hlt : j < l.length
    · obtain ⟨g, o, rfl, hg, us, hus, hc, hls⟩ := (Hk.out.below hbel).get hlt
      obtain ⟨rfl, hwf⟩ := Taint.opened hls
      have q0 : wr.cell? ⟨g, o + j * 3, none⟩ = some (.string l[j].key) := hc 0 _ rfl
      have q1 : wr.cell? ⟨g, o + j * 3 + 1, none⟩ = some (.string l[j].value) := hc 1 _ rfl
      have q2 : wr.cell? ⟨g, o + j * 3 + 2, none⟩ = some (.int .i64 l[j].effect) := hc 2 _ rfl
      have HC := Lib.hid (szTaint l[j] z wr hwf ⟨hz0, hz1⟩)
      have hnext := wsum_take Taint.wt hlt
      have hall := wsum_all Taint.wt l (j + 1)
      have Hbel := Lib.hid hbel
      clear hls hbel hg hus hc hwf
      by_cases h1 : z < (l[j].wt : Int)
      · have He := Lib.hid (cutN_no (show left < ((l.length + wsum Taint.wt l : Nat) : Int) by have := hin.out; omega))
        rw [cutN_no h1] at HC
        clear hnext hall hin h1
        generalize l[j] = x at q0 q1 q2 HC
        go_wp2_with fail
        refine HC.out.mono ?_
        rintro e w1 ⟨rfl, hb1⟩
        have Hbel1 := Lib.hid (Hbel.out.trans (hb1.mono Hbel.out.size))
        clear hb1 q0 q1 q2
        go_wp2_with fail
        go_ret
        exact ⟨by rw [He.out]; rfl, Hbel1.out⟩
      · have Hin := Lib.hid (show z - l[j].wt = left - l.length - wsum Taint.wt (l.take (j + 1)) by have := hin.out; omega)
        rw [cutN_yes h1] at HC
        clear hnext hall hin
        generalize l[j] = x at q0 q1 q2 HC h1 Hin
        generalize x.wt = y at HC h1 Hin
        go_wp2_with fail
        refine HC.out.mono ?_
        rintro e w1 ⟨rfl, hb1⟩
        have Hbel1 := Lib.hid (Hbel.out.trans (hb1.mono Hbel.out.size))
        clear hb1 q0 q1 q2
        go_wp2_with fail
        go_roundw
        case rel => exact ⟨j + 1, z - y, by omega, by go_num, rfl, by omega, by omega, Hin.out, Hbel1.out⟩
        case measure => simp [intOf]; omega
    · obtain rfl : j = l.length := by omega
      rw [List.take_of_length_le (Nat.le_refl _)] at hin
      have He := Lib.hid (cutN_yes (show ¬ left < ((l.length + wsum Taint.wt l : Nat) : Int) by have := hin.out; omega))
      have Hin := Lib.hid (show left - ((l.length + wsum Taint.wt l : Nat) : Int) = z by have := hin.out; omega)
      have Hbel := Lib.hid hbel
      clear hin hbel
      go_wp2_with fail
      go_ret
      exact ⟨by rw [He.out, Hin.out]; rfl, Hbel.out⟩
end Go.Proofs.YtcfbkfmkjggcdaaGreatDoor.ty
namespace Go.Proofs.YtcfbkfmkjggcdaaGreatDoor.ty
open Go.ChangeShapes Go.WideShapes Go.ChangeAt Go.RowKit
set_option linter.unusedVariables false

theorem szHost (x : Host) (f : Nat) (vs : List Value) (left : Int) (w : World) (h : LiesS w f vs x.row) (hl : LeftN left) :
    Calls Tryz.prog 25 #[.agg vs.toArray, .int .i64 left] w fun e w' => e = .returned (.int .i64 (cutN left x.wt)) ∧ Below w.heap.size w w' := by
  obtain ⟨a0, a1, a2, a3, a4, a5⟩ := x
  obtain ⟨A1, c1, A5, c5, rfl, hwf, k1, m1, l1, k5, m5, l5⟩ := Host.opened h
  simp only [Host.Wf] at *
  obtain ⟨w0, w2, w3, w4⟩ := hwf
  unfold maxLen at w0
  unfold LeftN at hl
  rw [show Host.wt ⟨a0, a1, a2, a3, a4, a5⟩ = a0.size + (a1.length + wsum Label.wt a1) + (a5.length + wsum Taint.wt a5) from rfl]
  have HB := Lib.hid (Box.new 56 w [.string a0, .slice A1 a1.length c1, .int .i64 a2, .int .i64 a3, .int .i64 a4, .slice A5 a5.length c5])
  have H1 := Lib.hid (fun w1 left (hb : Below w.heap.size w w1) hl => szLabelS a1 f (.slice A1 a1.length c1) left w1 (l1.below hb) hl)
  have H5 := Lib.hid (fun w1 left (hb : Below w.heap.size w w1) hl => szTaintS a5 f (.slice A5 a5.length c5) left w1 (l5.below hb) hl)
  clear h l1 k1 m1 l5 k5 m5
  have p0 := HB.out.cell (j := 0) rfl
  have p1 := HB.out.cell (j := 1) rfl
  have p5 := HB.out.cell (j := 5) rfl
  generalize hX1 : a1.length + wsum Label.wt a1 = X1 at H1 ⊢
  generalize hX5 : a5.length + wsum Taint.wt a5 = X5 at H5 ⊢
  by_cases h0 : left < (a0.size : Int)
  · have He := Lib.hid (cutN_no (show left < ((a0.size + X1 + X5 : Nat) : Int) by omega))
    clear hX1 H1 hX5 H5
    go_enter Tryz.func25, Tryz.ntmps25
    go_wp2_with fail
    go_ret
    exact ⟨by rw [He.out]; rfl, HB.out.1⟩
  by_cases h1 : left - (a0.size : Int) < (X1 : Int)
  · have He := Lib.hid (cutN_no (show left < ((a0.size + X1 + X5 : Nat) : Int) by omega))
    have J1 := Lib.hid (fun w1 hb => H1.out w1 (left - (a0.size : Int)) hb ⟨by omega, by omega⟩)
    rw [cutN_no h1] at J1
    clear hX1 H1 hX5 H5
    go_enter Tryz.func25, Tryz.ntmps25
    go_wp2_with fail
    refine (J1.out _ HB.out.1).mono ?_
    rintro e x1 ⟨rfl, hb1⟩
    have HB1 := Lib.hid (HB.out.below hb1)
    have p5_1 := HB1.out.cell (j := 5) rfl
    clear hb1 J1
    go_wp2_with fail
    go_ret
    exact ⟨by rw [He.out]; rfl, HB1.out.1⟩
  by_cases h5 : left - (a0.size : Int) - (X1 : Int) < (X5 : Int)
  · have He := Lib.hid (cutN_no (show left < ((a0.size + X1 + X5 : Nat) : Int) by omega))
    have J1 := Lib.hid (fun w1 hb => H1.out w1 (left - (a0.size : Int)) hb ⟨by omega, by omega⟩)
    rw [cutN_yes h1] at J1
    have J5 := Lib.hid (fun w1 hb => H5.out w1 (left - (a0.size : Int) - (X1 : Int)) hb ⟨by omega, by omega⟩)
    rw [cutN_no h5] at J5
    clear hX1 H1 hX5 H5
    go_enter Tryz.func25, Tryz.ntmps25
    go_wp2_with fail
    refine (J1.out _ HB.out.1).mono ?_
    rintro e x1 ⟨rfl, hb1⟩
    have HB1 := Lib.hid (HB.out.below hb1)
    have p5_1 := HB1.out.cell (j := 5) rfl
    clear hb1 J1
    go_wp2_with fail
    refine (J5.out _ HB1.out.1).mono ?_
    rintro e x5 ⟨rfl, hb5⟩
    have HB5 := Lib.hid (HB1.out.below hb5)
    clear hb5 J5
    go_wp2_with fail
    go_ret
    exact ⟨by rw [He.out]; rfl, HB5.out.1⟩
  have He := Lib.hid (cutN_yes (show ¬ left < ((a0.size + X1 + X5 : Nat) : Int) by omega))
  have He2 := Lib.hid (show left - ((a0.size + X1 + X5 : Nat) : Int) = left - (a0.size : Int) - (X1 : Int) - (X5 : Int) by omega)
  have J1 := Lib.hid (fun w1 hb => H1.out w1 (left - (a0.size : Int)) hb ⟨by omega, by omega⟩)
  rw [cutN_yes h1] at J1
  have J5 := Lib.hid (fun w1 hb => H5.out w1 (left - (a0.size : Int) - (X1 : Int)) hb ⟨by omega, by omega⟩)
  rw [cutN_yes h5] at J5
  clear hX1 H1 hX5 H5
  go_enter Tryz.func25, Tryz.ntmps25
  go_wp2_with fail
  refine (J1.out _ HB.out.1).mono ?_
  rintro e x1 ⟨rfl, hb1⟩
  have HB1 := Lib.hid (HB.out.below hb1)
  have p5_1 := HB1.out.cell (j := 5) rfl
  clear hb1 J1
  go_wp2_with fail
  refine (J5.out _ HB1.out.1).mono ?_
  rintro e x5 ⟨rfl, hb5⟩
  have HB5 := Lib.hid (HB1.out.below hb5)
  clear hb5 J5
  go_wp2_with fail
  go_ret
  exact ⟨by rw [He.out, He2.out]; rfl, HB5.out.1⟩
end Go.Proofs.YtcfbkfmkjggcdaaGreatDoor.ty
namespace Go.Proofs.YtcfbkfmkjggcdaaGreatDoor.ty
open Go.ChangeShapes Go.WideShapes Go.ChangeAt Go.RowKit
set_option linter.unusedVariables false

theorem eqTaint (x : Taint) (w : World) :
    Calls Tryz.prog 139 #[.agg #[.string x.key, .string x.value, .int .i64 x.effect], .agg #[.string x.key, .string x.value, .int .i64 x.effect]] w fun e w' => e = .returned (.bool true) ∧ Below w.heap.size w w' := by
  obtain ⟨a0, a1, a2⟩ := x
  simp only
  have Hb : Hid (∀ (a b : Obj), Below w.heap.size w ((w.alloc a).alloc b)) := fun a b => ((Below.refl _ _).alloc (Nat.le_refl _) a).alloc (by simp) b
  go_enter Tryz.func139, Tryz.ntmps139
  go_wp2_with fail
  go_ret
  exact ⟨rfl, Hb.out _ _⟩
end Go.Proofs.YtcfbkfmkjggcdaaGreatDoor.ty
namespace Go.Proofs.YtcfbkfmkjggcdaaGreatDoor.ty
open Go.ChangeShapes Go.WideShapes Go.ChangeAt Go.RowKit
set_option linter.unusedVariables false

set_option maxRecDepth 100000 in
theorem eqTaintS (l : List Taint) (f1 f2 : Nat) (v1 v2 : Value) (w : World) (h1 : Lies w f1 v1 (.sl 3 l.length (l.flatMap Taint.row))) (h2 : Lies w f2 v2 (.sl 3 l.length (l.flatMap Taint.row))) :
    Calls Tryz.prog 78 #[v1, v2] w fun e w' => e = .returned (.bool true) ∧ Below w.heap.size w w' := by
  obtain ⟨A1, c1, rfl, hc1, hm1, f', rfl, hk1⟩ := els_of Taint.row_length h1
  obtain ⟨A2, c2, rfl, hc2, hm2, f'', rfl, hk2⟩ := els_of Taint.row_length h2
  unfold maxLen at hm1 hm2
  have Hk1 := Lib.hid hk1
  have Hk2 := Lib.hid hk2
  clear h1 h2 hk1 hk2
  go_enter Tryz.func78, Tryz.ntmps78
  go_wp2_with fail
  go_loopw [5] (fun i wr => ∃ (j : Nat), j ≤ l.length ∧ i = .int .i64 j ∧ Below w.heap.size w wr) (fun i _ => l.length - (intOf i).toNat)
  case atStart => exact ⟨0, Nat.zero_le _, rfl, Below.refl _ _⟩
  case round =>
    obtain ⟨j, hj, rfl, hbel⟩ := hrel
    by_cases hlt : j < l.length
    · obtain ⟨g1, o1, rfl, hg1, us, hus1, hcc1, hls1⟩ := (Hk1.out.below hbel).get hlt
      obtain ⟨g2, o2, rfl, hg2, us2, hus2, hcc2, hls2⟩ := (Hk2.out.below hbel).get hlt
      obtain ⟨rfl, hwf1⟩ := Taint.opened hls1
      obtain ⟨rfl, hwf2⟩ := Taint.opened hls2
      have q0 : wr.cell? ⟨g1, o1 + j * 3, none⟩ = some (.string l[j].key) := hcc1 0 _ rfl
      have q1 : wr.cell? ⟨g1, o1 + j * 3 + 1, none⟩ = some (.string l[j].value) := hcc1 1 _ rfl
      have q2 : wr.cell? ⟨g1, o1 + j * 3 + 2, none⟩ = some (.int .i64 l[j].effect) := hcc1 2 _ rfl
      have r0 : wr.cell? ⟨g2, o2 + j * 3, none⟩ = some (.string l[j].key) := hcc2 0 _ rfl
      have r1 : wr.cell? ⟨g2, o2 + j * 3 + 1, none⟩ = some (.string l[j].value) := hcc2 1 _ rfl
      have r2 : wr.cell? ⟨g2, o2 + j * 3 + 2, none⟩ = some (.int .i64 l[j].effect) := hcc2 2 _ rfl
      have HC := Lib.hid (fun w1 => eqTaint l[j] w1)
      have Hbel := Lib.hid hbel
      clear hls1 hls2 hbel hg1 hg2 hus1 hus2 hcc1 hcc2 hwf1 hwf2
      generalize l[j] = x at HC q0 q1 q2 r0 r1 r2
      go_wp2_with fail
      go_region_law (go_simp; go_at_call 139; refine (HC.out _).mono ?_; rintro e w1 ⟨rfl, hb1⟩)
      all_goals
        have hbel1 := Hbel.out.trans (((Below.refl _ _).drew.trans (hb1.mono (Nat.le_refl _))).mono Hbel.out.size)
        clear hb1 q0 q1 q2 r0 r1 r2
        go_wp2_with fail
        go_roundw
        case rel => exact ⟨j + 1, by omega, by go_num, hbel1⟩
        case measure => simp [intOf]; omega
    · obtain rfl : j = l.length := by omega
      have Hbel := Lib.hid hbel
      clear hbel
      go_wp2_with fail
      go_ret
      exact ⟨rfl, Hbel.out⟩
end Go.Proofs.YtcfbkfmkjggcdaaGreatDoor.ty
namespace Go.Proofs.YtcfbkfmkjggcdaaGreatDoor.ty
open Go.ChangeShapes Go.WideShapes Go.ChangeAt Go.RowKit
set_option linter.unusedVariables false

theorem eqHost (x : Host) (f1 f2 : Nat) (vs us : List Value) (w : World) (h1 : LiesS w f1 vs x.row) (h2 : LiesS w f2 us x.row) :
    Calls Tryz.prog 27 #[.agg vs.toArray, .agg us.toArray] w fun e w' => e = .returned (.bool true) ∧ Below w.heap.size w w' := by
  obtain ⟨a0, a1, a2, a3, a4, a5⟩ := x
  obtain ⟨A1, c1, A5, c5, rfl, hwf, k1, m1, l1, k5, m5, l5⟩ := Host.opened h1
  obtain ⟨B1, d1, B5, d5, rfl, hwf2, k1_, m1_, r1, k5_, m5_, r5⟩ := Host.opened h2
  simp only at *
  have HB1 := Lib.hid (Box.new 32 w [.string a0, .slice A1 a1.length c1, .int .i64 a2, .int .i64 a3, .int .i64 a4, .slice A5 a5.length c5])
  have HB2 := Lib.hid (HB1.out.below ((Below.refl _ _).alloc (Nat.le_refl _) (.cells #[.string a0, .slice B1 a1.length d1, .int .i64 a2, .int .i64 a3, .int .i64 a4, .slice B5 a5.length d5] 32)))
  have HB3 := Lib.hid (Box.new 32 (w.alloc (.cells #[.string a0, .slice A1 a1.length c1, .int .i64 a2, .int .i64 a3, .int .i64 a4, .slice A5 a5.length c5] 32)) [.string a0, .slice B1 a1.length d1, .int .i64 a2, .int .i64 a3, .int .i64 a4, .slice B5 a5.length d5])
  have hsz : (w.alloc (.cells #[.string a0, .slice A1 a1.length c1, .int .i64 a2, .int .i64 a3, .int .i64 a4, .slice A5 a5.length c5] 32)).heap.size = w.heap.size + 1 := by simp
  have E1 := Lib.hid (fun w1 (hb : Below w.heap.size w w1) => eqLabelS a1 f1 f2 (.slice A1 a1.length c1) (.slice B1 a1.length d1) w1 (l1.below hb) (r1.below hb))
  have E5 := Lib.hid (fun w1 (hb : Below w.heap.size w w1) => eqTaintS a5 f1 f2 (.slice A5 a5.length c5) (.slice B5 a5.length d5) w1 (l5.below hb) (r5.below hb))
  have p0 := HB2.out.cell (j := 0) rfl
  have p1 := HB2.out.cell (j := 1) rfl
  have p2 := HB2.out.cell (j := 2) rfl
  have p3 := HB2.out.cell (j := 3) rfl
  have p4 := HB2.out.cell (j := 4) rfl
  have p5 := HB2.out.cell (j := 5) rfl
  have q0 := HB3.out.cell (j := 0) rfl
  have q1 := HB3.out.cell (j := 1) rfl
  have q2 := HB3.out.cell (j := 2) rfl
  have q3 := HB3.out.cell (j := 3) rfl
  have q4 := HB3.out.cell (j := 4) rfl
  have q5 := HB3.out.cell (j := 5) rfl
  rw [hsz] at q0 q1 q2 q3 q4 q5
  have hq := HB3.out.2
  rw [hsz] at hq
  have Hq := Lib.hid hq
  have Hp := Lib.hid HB2.out.2
  have Hbb := Lib.hid HB2.out.1
  clear h1 h2 hwf hwf2 HB1 HB2 HB3 hq hsz l1 r1 k1 m1 k1_ m1_ l5 r5 k5 m5 k5_ m5_
  go_enter Tryz.func27, Tryz.ntmps27
  go_wp2_with fail
  refine (E1.out _ Hbb.out).mono ?_
  rintro e y1 ⟨rfl, b1⟩
  have Hbb1 := Lib.hid (Hbb.out.trans (b1.mono Hbb.out.size))
  clear p0 p1 p2 p3 p4 p5 q0 q1 q2 q3 q4 q5
  have Hp1 := Lib.hid (heap_kept b1 (heap_lt Hp.out) Hp.out)
  have Hq1 := Lib.hid (heap_kept b1 (heap_lt Hq.out) Hq.out)
  have p2_1 : y1.cell? ⟨w.heap.size, 2, none⟩ = some (.int .i64 a2) := by rw [cell_of_row _ _ 2 _ _ _ Hp1.out]; rfl
  have q2_1 : y1.cell? ⟨w.heap.size + 1, 2, none⟩ = some (.int .i64 a2) := by rw [cell_of_row _ _ 2 _ _ _ Hq1.out]; rfl
  have p3_1 : y1.cell? ⟨w.heap.size, 3, none⟩ = some (.int .i64 a3) := by rw [cell_of_row _ _ 3 _ _ _ Hp1.out]; rfl
  have q3_1 : y1.cell? ⟨w.heap.size + 1, 3, none⟩ = some (.int .i64 a3) := by rw [cell_of_row _ _ 3 _ _ _ Hq1.out]; rfl
  have p4_1 : y1.cell? ⟨w.heap.size, 4, none⟩ = some (.int .i64 a4) := by rw [cell_of_row _ _ 4 _ _ _ Hp1.out]; rfl
  have q4_1 : y1.cell? ⟨w.heap.size + 1, 4, none⟩ = some (.int .i64 a4) := by rw [cell_of_row _ _ 4 _ _ _ Hq1.out]; rfl
  have p5_1 : y1.cell? ⟨w.heap.size, 5, none⟩ = some (.slice A5 a5.length c5) := by rw [cell_of_row _ _ 5 _ _ _ Hp1.out]; rfl
  have q5_1 : y1.cell? ⟨w.heap.size + 1, 5, none⟩ = some (.slice B5 a5.length d5) := by rw [cell_of_row _ _ 5 _ _ _ Hq1.out]; rfl
  clear b1
  go_wp2_with fail
  refine (E5.out _ Hbb1.out).mono ?_
  rintro e y5 ⟨rfl, b5⟩
  have Hbb5 := Lib.hid (Hbb1.out.trans (b5.mono Hbb1.out.size))
  clear p2_1 q2_1 p3_1 q3_1 p4_1 q4_1 p5_1 q5_1
  clear b5
  go_wp2_with fail
  go_ret
  exact ⟨rfl, Hbb5.out⟩
end Go.Proofs.YtcfbkfmkjggcdaaGreatDoor.ty
namespace Go.Proofs.YtcfbkfmkjggcdaaGreatDoor.taint
open Go.ChangeShapes Go.WideShapes Go.ChangeAt Go.RowKit ty lab need
set_option linter.unusedVariables false

theorem taint_yes (x : Taint) : yes (TaintP x) = (yes (KeyP x.key ∧ ValP x.value) && yes (1 ≤ x.effect ∧ x.effect ≤ 2)) := by
  rw [← yes_and]
  congr 1
  exact propext ⟨fun h => ⟨⟨h.key, h.value⟩, h.lo, h.hi⟩, fun h => ⟨h.1.1, h.1.2, h.2.1, h.2.2⟩⟩
set_option maxRecDepth 100000 in
set_option maxHeartbeats 4000000 in
theorem impl_taint (x : Taint) (w : World) (hw : x.Wf) :
    Calls Tryz.prog 184 #[.agg #[.string x.key, .string x.value, .int .i64 x.effect]] w fun e w' => e = .returned (.bool (yes (TaintP x))) ∧ Below w.heap.size w w' := by
  rw [taint_yes]
  have HL := Lib.hid (fun w' => impl_lab x.key x.value x.effect w' hw.1 hw.2.1)
  have HE := Lib.hid (fun w' => impl_eff x.key x.value x.effect w')
  have HF := Lib.hid (fun w' => impl_ft x w')
  have Hb0 := Lib.hid (fun o : Obj => (Below.refl w.heap.size w).alloc (Nat.le_refl _) o)
  clear hw
  obtain ⟨k, a, n⟩ := x
  simp only at *
  generalize yes (1 ≤ n ∧ n ≤ 2) = r2 at HE ⊢
  generalize yes (KeyP k ∧ ValP a) = r1 at HL ⊢
  cases r1 with
  | false =>
    clear HE
    go_enter Tryz.func184, Tryz.ntmps184
    go_wp2_with fail
    refine (HF.out _).mono ?_
    rintro e w1 ⟨rfl, hg⟩
    have Hb1 := Lib.hid (below_link (Hb0.out _) hg.below (Hb0.out _).size)
    clear hg
    go_wp2_with fail
    refine (HL.out _).mono ?_
    rintro e w2 ⟨rfl, hb⟩
    have Hb2 := Lib.hid (below_link (Hb1.out.alloc Hb1.out.size _) hb (Hb1.out.alloc Hb1.out.size _).size)
    clear hb
    go_wp2_with fail
    go_ret
    exact ⟨rfl, Hb2.out⟩
  | true =>
    go_enter Tryz.func184, Tryz.ntmps184
    go_wp2_with fail
    refine (HF.out _).mono ?_
    rintro e w1 ⟨rfl, hg⟩
    have Hb1 := Lib.hid (below_link (Hb0.out _) hg.below (Hb0.out _).size)
    clear hg
    go_wp2_with fail
    refine (HL.out _).mono ?_
    rintro e w2 ⟨rfl, hb⟩
    have hr := (RowE.new 193 w1 [.string k, .string a, .int .i64 n]).below hb
    have c0 := hr.cell 0 _ rfl
    have c1 := hr.cell 1 _ rfl
    have c2 := hr.cell 2 _ rfl
    have Hb2 := Lib.hid (below_link (Hb1.out.alloc Hb1.out.size _) hb (Hb1.out.alloc Hb1.out.size _).size)
    clear hb hr
    go_wp2_with fail
    refine (HE.out _).mono ?_
    rintro e w3 ⟨rfl, hb⟩
    have Hb3 := Lib.hid (below_link Hb2.out hb Hb2.out.size)
    clear hb
    go_wp2_with fail
    go_ret
    exact ⟨by cases r2 <;> rfl, Hb3.out⟩
end Go.Proofs.YtcfbkfmkjggcdaaGreatDoor.taint
namespace Go.Proofs.YtcfbkfmkjggcdaaGreatDoor.taint
open Go.ChangeShapes Go.WideShapes Go.ChangeAt Go.RowKit ty lab need
set_option linter.unusedVariables false

/-- The embedded struct, taken out of a struct. -/
theorem emb_taint (a b : ByteArray) (n : Int) (w : World) : Sem.run Tryz.prog (Instr.field 193 (.agg #[.string a, .string b, .int .i64 n]) 0) w = .ok (.agg #[.string a, .string b, .int .i64 n]) w := by kernel_rfl
set_option maxRecDepth 100000 in
set_option maxHeartbeats 8000000 in
theorem impl_cmpT (x y : Taint) (w : World) :
    Calls Tryz.prog 108 #[.agg #[.string x.key, .string x.value, .int .i64 x.effect], .agg #[.string y.key, .string y.value, .int .i64 y.effect]] w fun e w' => e = .returned (.int .i64 (cmpT x y)) ∧ Gr w w' := by
  unfold cmpT
  obtain ⟨k1, a1, n1⟩ := x
  obtain ⟨k2, a2, n2⟩ := y
  simp only
  obtain ⟨X, hX⟩ : ∃ X, X = (w.alloc (.cells #[.string k1, .string a1, .int .i64 n1] 72)).alloc (.cells #[.string k2, .string a2, .int .i64 n2] 72) := ⟨_, rfl⟩
  have HB : Box2 72 w [.string k1, .string a1, .int .i64 n1] [.string k2, .string a2, .int .i64 n2] X := by rw [hX]; exact Box2.new _ _ _ _
  have hgr : Gr w X := by rw [hX]; exact ((Gr.refl w).alloc _).alloc _
  have hs : w.heap.size + 1 < X.heap.size := by rw [hX]; simp
  have p0 : ∀ p : GrBy X, p.v.cell? ⟨w.heap.size, 0, none⟩ = some (.string k1) := fun p => p.cell (by simp; omega) (HB.cell1 (j := 0) rfl)
  have p1 : ∀ p : GrBy X, p.v.cell? ⟨w.heap.size, 1, none⟩ = some (.string a1) := fun p => p.cell (by simp; omega) (HB.cell1 (j := 1) rfl)
  have p2 : ∀ p : GrBy X, p.v.cell? ⟨w.heap.size, 2, none⟩ = some (.int .i64 n1) := fun p => p.cell (by simp; omega) (HB.cell1 (j := 2) rfl)
  have q0 : ∀ p : GrBy X, p.v.cell? ⟨w.heap.size + 1, 0, none⟩ = some (.string k2) := fun p => p.cell (by simp; omega) (HB.cell2 (j := 0) rfl)
  have q1 : ∀ p : GrBy X, p.v.cell? ⟨w.heap.size + 1, 1, none⟩ = some (.string a2) := fun p => p.cell (by simp; omega) (HB.cell2 (j := 1) rfl)
  have q2 : ∀ p : GrBy X, p.v.cell? ⟨w.heap.size + 1, 2, none⟩ = some (.int .i64 n2) := fun p => p.cell (by simp; omega) (HB.cell2 (j := 2) rfl)
  have HF := Lib.hid (fun (a b : ByteArray) (n : Int) w' => impl_ft ⟨a, b, n⟩ w')
  simp only at HF
  have HC := Lib.hid (fun w' => impl_common k1 a1 n1 k2 a2 n2 w')
  have F0 := emb_taint
  have Hgr := Lib.hid hgr
  have HX := Lib.hid hX
  clear HB hgr hs hX
  generalize orI (cmpB k1 k2) (cmpB a1 a2) (arith.cmpF n1 n2) = r at HC ⊢
  go_enter Tryz.func108, Tryz.ntmps108
  go_wp2_with fail
  rw [← HX.out]
  refine wp_region_quiet_gr (by kernel_rfl) (by kernel_rfl) ?_
  repeat (refine @wpQuiet_step _ _ _ _ _ _ _ ?_; intro K hK; go_simp; first | (refine hK _ ?_; clear hK K) | (apply Exists.intro; refine ⟨fun _ => ?_, hK _ ?_⟩; (first | (go_at_call 182; exact Calls.gr_of (HF.out _ _ _ _)) | (go_at_call 177; exact Calls.gr_of (HC.out _))); clear hK K))
  refine wpQuiet_nil ?_
  intro _ hw'
  obtain ⟨p, rfl⟩ := hw'
  go_wp2_with fail
  go_ret
  exact ⟨rfl, Hgr.out.trans p.h⟩
end Go.Proofs.YtcfbkfmkjggcdaaGreatDoor.taint
namespace Go.Proofs.YtcfbkfmkjggcdaaGreatDoor.taint
open Go.ChangeShapes Go.WideShapes Go.ChangeAt Go.RowKit ty lab dedup need
set_option linter.unusedVariables false

set_option maxRecDepth 100000 in
set_option maxHeartbeats 16000000 in
theorem impl_ascTaint (l : List Taint) (f : Nat) (v : Value) (w : World) (h : Lies w f v (.sl 3 l.length (l.flatMap Taint.row))) :
    Calls Tryz.prog 183 #[v, .func (.func 184) #[] #[], .func (.func 108) #[] #[]] w fun e w' => e = .returned (.bool (yes (GoodL TaintP lessT l l.length))) ∧ Below w.heap.size w w' := by
  obtain ⟨A, c, rfl, hc1, hc2, f', rfl, hk⟩ := els_of Taint.row_length h
  unfold maxLen at hc2
  obtain ⟨R, hR⟩ : ∃ R, yes (GoodL TaintP lessT l l.length) = R := ⟨_, rfl⟩
  rw [hR]
  have Hno : Hid (¬ GoodL TaintP lessT l l.length → R = false) := fun h => by rw [← hR]; exact yes_f h
  have Hyes : Hid (GoodL TaintP lessT l l.length → R = true) := fun h => by rw [← hR]; exact yes_t h
  have Hk := Lib.hid hk
  clear h hk hR
  go_enter Tryz.func183, Tryz.ntmps183
  go_wp2_with fail
  go_loopw [11] (fun i wr => ∃ j : Nat, j ≤ l.length ∧ i = .int .i64 j ∧ Hid (GoodL TaintP lessT l j) ∧ Below w.heap.size w wr) (fun i _ => l.length - (intOf i).toNat)
  case atStart => exact ⟨0, Nat.zero_le _, rfl, fun i hi hj => by omega, Below.refl _ _⟩
  case round =>
    obtain ⟨j, hj, rfl, hgood, hbel⟩ := hrel
    have Hbel := Lib.hid hbel
    by_cases hlt : j < l.length
    · obtain ⟨g, o, rfl, hg, us, hus, hc, hls⟩ := (Hk.out.below hbel).get hlt
      obtain ⟨rfl, hwf⟩ := Taint.opened hls
      have q0 : wr.cell? ⟨g, o + j * 3, none⟩ = some (.string l[j].key) := hc 0 _ rfl
      have q1 : wr.cell? ⟨g, o + j * 3 + 1, none⟩ = some (.string l[j].value) := hc 1 _ rfl
      have q2 : wr.cell? ⟨g, o + j * 3 + 2, none⟩ = some (.int .i64 l[j].effect) := hc 2 _ rfl
      obtain ⟨X, hX⟩ : ∃ X, X = wr.alloc (.cells #[.string l[j].key, .string l[j].value, .int .i64 l[j].effect] 72) := ⟨_, rfl⟩
      have HB := Lib.hid (Box.new 72 wr [.string l[j].key, .string l[j].value, .int .i64 l[j].effect])
      have hbX : Below wr.heap.size wr X := by rw [hX]; exact HB.out.1
      have HN := Lib.hid (fun p : BelowBy X => impl_taint l[j] p.v hwf)
      have HW2 : Hid (∀ p : BelowBy X, Below w.heap.size w p.v) := fun p => below_link hbel (hbX.trans (p.h.mono hbX.size)) hbel.size
      have B0 : ∀ p : BelowBy X, p.v.cell? ⟨wr.heap.size, 0, none⟩ = some (.string l[j].key) := fun p => p.cell (by rw [hX]; simp) (by rw [hX]; exact HB.out.cell (j := 0) rfl)
      have B1 : ∀ p : BelowBy X, p.v.cell? ⟨wr.heap.size, 1, none⟩ = some (.string l[j].value) := fun p => p.cell (by rw [hX]; simp) (by rw [hX]; exact HB.out.cell (j := 1) rfl)
      have B2 : ∀ p : BelowBy X, p.v.cell? ⟨wr.heap.size, 2, none⟩ = some (.int .i64 l[j].effect) := fun p => p.cell (by rw [hX]; simp) (by rw [hX]; exact HB.out.cell (j := 2) rfl)
      have HX := Lib.hid hX
      have hj0 : (0 : Int) ≤ (j : Int) := by omega
      have hjn : (j : Int) < (l.length : Int) := by omega
      by_cases hP : TaintP l[j]
      case neg =>
        have Hf := Lib.hid (Hno.out fun h2 => hP (h2 j hlt hlt).1)
        rw [yes_f hP] at HN
        clear hP Hno Hyes hgood hls hus hc hg hwf Hk hbel hbX hX HB
        generalize l[j] = x at *
        go_wp2_with fail
        rw [← HX.out]
        refine wp_region_quiet_below (by kernel_rfl) (by kernel_rfl) ?_
        repeat (refine @wpQuiet_step _ _ _ _ _ _ _ ?_; intro K hK; go_simp; first | (refine hK _ ?_; clear hK K) | (apply Exists.intro; refine ⟨fun _ => ?_, hK _ ?_⟩; (first | (go_at_call 184; exact Calls.below_of (HN.out _))); clear hK K))
        refine wpQuiet_nil ?_
        intro _ hw'
        obtain ⟨p, rfl⟩ := hw'
        go_wp2_with fail
        go_ret
        exact ⟨by rw [Hf.out]; rfl, HW2.out p⟩
      rw [yes_t hP] at HN
      by_cases hz : j = 0
      · have Hg := Lib.hid (goodL_next hgood.out hlt hP (fun m hm => by omega))
        have hn0 : ¬ (0 : Int) < (j : Int) := by omega
        have hn1 : ¬ 0 < j := by omega
        clear hP Hno Hyes hgood hls hus hc hg hwf Hk hz hbel hbX hX HB
        generalize l[j] = x at *
        go_wp2_with fail
        rw [← HX.out]
        refine wp_region_quiet_below (by kernel_rfl) (by kernel_rfl) ?_
        repeat (refine @wpQuiet_step _ _ _ _ _ _ _ ?_; intro K hK; go_simp; first | (refine hK _ ?_; clear hK K) | (apply Exists.intro; refine ⟨fun _ => ?_, hK _ ?_⟩; (first | (go_at_call 184; exact Calls.below_of (HN.out _))); clear hK K))
        refine wpQuiet_nil ?_
        intro _ hw'
        obtain ⟨p, rfl⟩ := hw'
        go_wp2_with fail
        go_roundw
        case rel => exact ⟨j + 1, by omega, by go_num, Hg.out, HW2.out p⟩
        case measure => simp [intOf]; omega
      obtain ⟨m, hm⟩ : ∃ m, m + 1 = j := ⟨j - 1, by omega⟩
      have hml : m < l.length := by omega
      obtain ⟨g', o', hA3, hg2, us2, hus2, hc2', hls2⟩ := (Hk.out.below hbel).get hml
      injection hA3 with hA3
      injection hA3 with e1 e2
      subst e1 e2
      obtain ⟨rfl, _⟩ := Taint.opened hls2
      have HC := Lib.hid (fun p : BelowBy X => gr_below (impl_cmpT l[m] l[j] p.v))
      have R0 : ∀ p : BelowBy X, p.v.cell? ⟨g, o + m * 3, none⟩ = some (.string l[m].key) := fun p => (World.cell?_of_block ((hbX.trans (p.h.mono hbX.size)).block g hg)).trans (hc2' 0 _ rfl)
      have R1 : ∀ p : BelowBy X, p.v.cell? ⟨g, o + m * 3 + 1, none⟩ = some (.string l[m].value) := fun p => (World.cell?_of_block ((hbX.trans (p.h.mono hbX.size)).block g hg)).trans (hc2' 1 _ rfl)
      have R2 : ∀ p : BelowBy X, p.v.cell? ⟨g, o + m * 3 + 2, none⟩ = some (.int .i64 l[m].effect) := fun p => (World.cell?_of_block ((hbX.trans (p.h.mono hbX.size)).block g hg)).trans (hc2' 2 _ rfl)
      have hmi : (j : Int) - 1 = (m : Int) := by omega
      have hwm : IntKind.i64.wrap (m : Int) = (m : Int) := IntWalk.i64_in _ (by omega)
      have hm0 : (0 : Int) ≤ (m : Int) := by omega
      have hm1 : (m : Int) < (l.length : Int) := by omega
      have hjp : (0 : Int) < (j : Int) := by omega
      have hjp1 : 0 < j := by omega
      have hb := CmpWay.less wayT ordT l[m] l[j]
      by_cases hr : cmpT l[m] l[j] < 0
      · rw [decide_eq_true hr] at hb
        have Hg := Lib.hid (goodL_next hgood.out hlt hP (fun m' hm' => by obtain rfl : m' = m := by omega
                                                                          exact hb.symm))
        have hr0 : ¬ (0 : Int) ≤ cmpT l[m] l[j] := by omega
        clear hP Hno Hyes hgood hls hus hc hg hwf hls2 hus2 hc2' hg2 Hk hz hm hb hbel hbX hX HB
        generalize cmpT l[m] l[j] = r at HC hr0 hr
        generalize l[j] = x at *
        generalize l[m] = y at *
        go_wp2_with fail
        rw [← HX.out]
        refine wp_region_quiet_below (by kernel_rfl) (by kernel_rfl) ?_
        repeat (refine @wpQuiet_step _ _ _ _ _ _ _ ?_; intro K hK; go_simp; first | (refine hK _ ?_; clear hK K) | (apply Exists.intro; refine ⟨fun _ => ?_, hK _ ?_⟩; (first | (go_at_call 184; exact Calls.below_of (HN.out _)) | (go_at_call 108; exact Calls.below_of (HC.out _))); clear hK K))
        refine wpQuiet_nil ?_
        intro _ hw'
        obtain ⟨p, rfl⟩ := hw'
        go_wp2_with fail
        go_roundw
        case rel => exact ⟨j + 1, by omega, by go_num, Hg.out, HW2.out p⟩
        case measure => simp [intOf]; omega
      · rw [decide_eq_false hr] at hb
        have Hf := Lib.hid (Hno.out fun h2 => by
          have := (h2 j hlt hlt).2 m hm
          rw [← hb] at this; cases this)
        have hr0 : (0 : Int) ≤ cmpT l[m] l[j] := by omega
        clear hP Hno Hyes hgood hls hus hc hg hwf hls2 hus2 hc2' hg2 Hk hz hm hb hbel hbX hX HB
        generalize cmpT l[m] l[j] = r at HC hr0 hr
        generalize l[j] = x at *
        generalize l[m] = y at *
        go_wp2_with fail
        rw [← HX.out]
        refine wp_region_quiet_below (by kernel_rfl) (by kernel_rfl) ?_
        repeat (refine @wpQuiet_step _ _ _ _ _ _ _ ?_; intro K hK; go_simp; first | (refine hK _ ?_; clear hK K) | (apply Exists.intro; refine ⟨fun _ => ?_, hK _ ?_⟩; (first | (go_at_call 184; exact Calls.below_of (HN.out _)) | (go_at_call 108; exact Calls.below_of (HC.out _))); clear hK K))
        refine wpQuiet_nil ?_
        intro _ hw'
        obtain ⟨p, rfl⟩ := hw'
        go_wp2_with fail
        go_ret
        exact ⟨by rw [Hf.out]; rfl, HW2.out p⟩
    · obtain rfl : j = l.length := by omega
      have Hf := Lib.hid (Hyes.out hgood.out)
      clear hgood hbel
      go_wp2_with fail
      go_ret
      exact ⟨by rw [Hf.out]; rfl, Hbel.out⟩
end Go.Proofs.YtcfbkfmkjggcdaaGreatDoor.taint
namespace Go.Proofs.YtcfbkfmkjggcdaaGreatDoor.taint
open Go.ChangeShapes Go.WideShapes Go.ChangeAt Go.RowKit ty lab dedup need
set_option linter.unusedVariables false

set_option maxRecDepth 100000 in
set_option maxHeartbeats 4000000 in
theorem impl_oksTaint (l : List Taint) (f : Nat) (v : Value) (w : World) (h : Lies w f v (.sl 3 l.length (l.flatMap Taint.row))) :
    Calls Tryz.prog 109 #[v] w fun e w' => e = .returned (.bool (yes (TaintsP l))) ∧ Below w.heap.size w w' := by
  have HA := Lib.hid (impl_ascTaint l f v w h)
  obtain ⟨A, c, rfl, hc1, hc2, _⟩ := els_of Taint.row_length h
  unfold maxLen at hc2
  by_cases h4 : 4 < l.length
  · have Hf := Lib.hid (yes_f (p := TaintsP l) (fun h => by have := h.1; omega))
    clear h HA
    go_enter Tryz.func109, Tryz.ntmps109
    go_wp2_with fail
    go_ret
    exact ⟨by rw [Hf.out]; rfl, Below.refl _ _⟩
  have He : Hid (yes (TaintsP l) = yes (GoodL TaintP lessT l l.length)) := by
    unfold Hid
    congr 1
    exact propext ⟨fun h => h.2, fun h => ⟨by omega, h⟩⟩
  rw [He.out]
  clear He h
  generalize yes (GoodL TaintP lessT l l.length) = R at HA ⊢
  go_enter Tryz.func109, Tryz.ntmps109
  go_wp2_with fail
  refine HA.out.mono ?_
  rintro e w1 ⟨rfl, hb⟩
  go_wp2_with fail
  go_ret
  exact ⟨rfl, hb⟩
end Go.Proofs.YtcfbkfmkjggcdaaGreatDoor.taint
