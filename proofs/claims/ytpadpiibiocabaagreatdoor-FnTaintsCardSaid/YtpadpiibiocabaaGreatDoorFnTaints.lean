/- FnTaints: for every byte slice the law returns true. -/
import Derived.Test.YtpadpiibiocabaaGreatDoorDrawSortTaints
import Derived.Test.YtpadpiibiocabaaGreatDoorDrawSortTolerances
import Derived.Test.YtpadpiibiocabaaGreatDoorSrtTaint
import Derived.Test.YtpadpiibiocabaaGreatDoorSrtTolerance
import Derived.Test.YtpadpiibiocabaaGreatDoorBigL
namespace Go.Proofs.YtpadpiibiocabaaGreatDoor.fnTaints
open Go.ChangeShapes Go.WideShapes Go.ChangeAt Go.RowKit
open lab ty draw taint need dedup
set_option linter.unusedVariables false

theorem sortL_sum {α : Type} {P : List α → Prop} {lt : α → α → Bool} (f : α → Nat) (l : List α) : wsum f (sortL P lt l).1 ≤ wsum f l := by
  rcases sortL_cases (lt := lt) P l with e | ⟨e, _⟩ <;> rw [e]
  · exact Nat.le_refl _
  · exact sum_dsort lt f l
theorem sortL_good {α : Type} {P : List α → Prop} {lt : α → α → Bool} {l : List α} (h : (sortL P lt l).2 = true) : P (sortL P lt l).1 := by
  rcases sortL_cases (lt := lt) P l with e | ⟨e, hP⟩
  · rw [e] at h; cases h
  · rw [e]; exact hP
theorem nilT : TaintsP [] := ⟨by simp, fun i hi => by simp at hi⟩
/-- A nil slice reads as no element. -/
theorem lies_nil (w : World) (f k : Nat) (row : Taint → List C) : Lies w (f + 1) (.slice none 0 0) (.sl k ([] : List Taint).length (([] : List Taint).flatMap row)) := (own_nil w 0 f k).lies
set_option maxRecDepth 100000 in
set_option maxHeartbeats 32000000 in
theorem walk (A : Option Addr) (len cap : Nat) (zs : List Int) (W : World) (hr : IsRow .u8 W A len cap zs) :
    Calls Tryz.prog 3 #[.slice A len cap] W fun e w' => e = .returned (.bool true) ∧ Below W.heap.size W w' := by
  have hm := hr.le
  have hB := Lib.hid (lawBig.any A len cap W hm)
  unfold maxLen at hm
  by_cases h1 : 1048576 < len
  · clear hr
    go_enter Tryz.func3, Tryz.ntmps3
    go_wp2_with fail
    refine hB.out.mono ?_
    rintro e w1 ⟨rfl, rfl⟩
    go_wp2_with fail
    go_ret
    exact ⟨rfl, Below.refl _ _⟩
  have HD1 := Lib.hid (drawSortTaint A len cap zs W hr (by omega))
  have HD2 := Lib.hid (fun w (hb : Below W.heap.size W w) => drawSortTolerance A len cap zs w (hr.below hb) (by omega))
  clear hr
  go_enter Tryz.func3, Tryz.ntmps3
  go_wp2_with fail
  refine hB.out.mono ?_
  rintro e w1 ⟨rfl, rfl⟩
  clear hB
  go_wp2_with fail
  refine HD1.out.mono ?_
  clear HD1
  rintro e w1 ⟨l, v, f, F, hl, ht, rfl, ho, hb1⟩
  have L1 := Lib.hid (fun w (hb : Below w1.heap.size w1 w) => ho.lies.below hb)
  have HD := Lib.hid (HD2.out w1 hb1)
  have B1 := Lib.hid hb1
  clear ho hb1 HD2
  go_wp2_with fail
  refine HD.out.mono ?_
  clear HD
  rintro e w2 ⟨m, u, g, G, hm2, hu, rfl, ho, hb2⟩
  have L1' := Lib.hid (fun w (hb : Below w2.heap.size w2 w) => L1.out w (below_link hb2 hb hb2.size))
  have L2 := Lib.hid (fun w (hb : Below w2.heap.size w2 w) => ho.lies.below hb)
  have B2 := Lib.hid (below_link B1.out hb2 B1.out.size)
  have sl : wsum Taint.wt l ≤ 1048576 := Nat.le_trans (tinyL_sumTaint ht) (by omega)
  have sm : wsum Tolerance.wt m ≤ 1048576 := Nat.le_trans (tinyL_sumTolerance hu) (by omega)
  clear ho hb2 L1 B1 ht hu
  have HI1 := Lib.hid (fun w hb => impl_sortTaint l _ _ w (L1'.out w hb) (by omega))
  have HI2 := Lib.hid (fun w hb => impl_sortTolerance m _ _ w (L2.out w hb) (by omega))
  have HS1 := Lib.hid (fun w hb => spec_sortTaint l _ _ w (L1'.out w hb) sl (by omega))
  have HS2 := Lib.hid (fun w hb => spec_sortTolerance m _ _ w (L2.out w hb) sm (by omega))
  have hg1 := Lib.hid (fun h => sortL_good (P := TaintsP) (lt := lessT) (l := l) h)
  have hg2 := Lib.hid (fun h => sortL_good (P := TolsP) (lt := befT) (l := m) h)
  have hs1 := Nat.le_trans (sortL_sum (P := TaintsP) (lt := lessT) Taint.wt l) sl
  have hs2 := Nat.le_trans (sortL_sum (P := TolsP) (lt := befT) Tolerance.wt m) sm
  generalize sortL TaintsP lessT l = R1 at HI1 HS1 hg1 hs1
  generalize sortL TolsP befT m = R2 at HI2 HS2 hg2 hs2
  obtain ⟨rx, bx⟩ := R1
  obtain ⟨ry, by_⟩ := R2
  simp only at hg1 hg2 hs1 hs2
  clear sl sm L1' L2 hl hm2
  go_wp2_with fail
  refine (HI1.out w2 (Below.refl _ _)).mono ?_
  rintro e w3 ⟨vx, fx, Fx, rfl, ox, _, hb3⟩
  have X3 := Lib.hid (fun w (hb : Below w3.heap.size w3 w) => ox.lies.below hb)
  have B3 := Lib.hid hb3
  clear ox hb3 HI1
  go_wp2_with fail
  refine (HI2.out w3 B3.out).mono ?_
  rintro e w4 ⟨vy, fy, Fy, rfl, oy, _, hb4⟩
  have X4 := Lib.hid (fun w (hb : Below w4.heap.size w4 w) => X3.out w (below_link hb4 hb hb4.size))
  have Y4 := Lib.hid (fun w (hb : Below w4.heap.size w4 w) => oy.lies.below hb)
  have B4 := Lib.hid (below_link B3.out hb4 B3.out.size)
  clear oy hb4 HI2 X3 B3
  go_wp2_with fail
  refine (HS1.out w4 B4.out).mono ?_
  rintro e w5 ⟨vp, fp, Fp, rfl, op, _, hb5⟩
  have X5 := Lib.hid (fun w (hb : Below w5.heap.size w5 w) => X4.out w (below_link hb5 hb hb5.size))
  have Y5 := Lib.hid (fun w (hb : Below w5.heap.size w5 w) => Y4.out w (below_link hb5 hb hb5.size))
  have P5 := Lib.hid (fun w (hb : Below w5.heap.size w5 w) => op.lies.below hb)
  have B5 := Lib.hid (below_link B4.out hb5 B4.out.size)
  clear op hb5 HS1 X4 Y4 B4
  go_wp2_with fail
  refine (HS2.out w5 B5.out).mono ?_
  rintro e w6 ⟨vq, fq, Fq, rfl, oq, _, hb6⟩
  have X6 := Lib.hid (fun w (hb : Below w6.heap.size w6 w) => X5.out w (below_link hb6 hb hb6.size))
  have Y6 := Lib.hid (fun w (hb : Below w6.heap.size w6 w) => Y5.out w (below_link hb6 hb hb6.size))
  have P6 := P5.out w6 hb6
  have Q6 := oq.lies
  have B6 := Lib.hid (below_link B2.out (below_link B5.out hb6 B5.out.size) B2.out.size)
  obtain ⟨Ax, cx, rfl, hx1, hx2, fx', hfx, hkx⟩ := els_of Taint.row_length (X6.out w6 (Below.refl _ _))
  obtain ⟨Ay, cy, rfl, hy1, hy2, fy', hfy, hky⟩ := els_of Tolerance.row_length (Y6.out w6 (Below.refl _ _))
  obtain ⟨Ap, cp, rfl, hp1, hp2, fp', hfp, hkp⟩ := els_of Taint.row_length P6
  obtain ⟨Aq, cq, rfl, hq1, hq2, fq', hfq, hkq⟩ := els_of Tolerance.row_length Q6
  unfold maxLen at hx2 hy2 hp2 hq2
  have EX := Lib.hid hkx
  have EY := Lib.hid hky
  have EP := Lib.hid hkp
  have EQ := Lib.hid hkq
  clear oq hb6 HS2 X5 Y5 B5 P5 P6 Q6 hkx hky hkp hkq hfx hfy hfp hfq B2
  have HT1 := Lib.hid (fun w hb => impl_oksTaint rx _ _ w (X6.out w hb))
  have HT2 := Lib.hid (fun w hb => spec_oksTaint rx _ _ w (X6.out w hb) hs1)
  have HO1 := Lib.hid (fun w hb => impl_oksTolerance ry _ _ w (Y6.out w hb))
  have HO2 := Lib.hid (fun w hb => spec_oksTolerance ry _ _ w (Y6.out w hb) hs2)
  have HN := Lib.hid (fun w => impl_oksTaint [] 1 (.slice none 0 0) w (lies_nil w 0 3 Taint.row))
  rw [yes_t nilT] at HN
  have W1 : bx = false ∨ (bx = true ∧ yes (TaintsP rx) = true) := by
    cases bx with
    | false => exact .inl rfl
    | true => exact .inr ⟨rfl, yes_t (hg1.out rfl)⟩
  have W2 : by_ = false ∨ (by_ = true ∧ yes (TolsP ry) = true) := by
    cases by_ with
    | false => exact .inl rfl
    | true => exact .inr ⟨rfl, yes_t (hg2.out rfl)⟩
  generalize yes (TaintsP rx) = r1 at HT1 HT2 W1
  generalize yes (TolsP ry) = r2 at HO1 HO2 W2
  have W1 := Lib.hid W1
  have W2 := Lib.hid W2
  clear hg1 hg2 hs1 hs2 X6 Y6
  go_wp2_with fail
  go_loopw [13] (fun i wr => ∃ j : Nat, j ≤ rx.length ∧ i = .int .i64 j ∧ ∃ n, wr = w6.drewN n) (fun i _ => rx.length - (intOf i).toNat)
  case atStart => exact ⟨0, Nat.zero_le _, rfl, 0, rfl⟩
  case round =>
    obtain ⟨j, hj, rfl, n0, hwr⟩ := hrel
    have Hw : Hid (∃ n, wr = w6.drewN n) := ⟨n0, hwr⟩
    by_cases hlt : j < rx.length
    · obtain ⟨g1, o1, rfl, hg1', us, hus, hc, hls⟩ := EX.out.get hlt
      obtain ⟨rfl, _⟩ := Taint.opened hls
      obtain ⟨g2, o2, rfl, hg2', us2, hus2, hc2', hls2⟩ := EP.out.get hlt
      obtain ⟨rfl, _⟩ := Taint.opened hls2
      have q0 : wr.cell? ⟨g1, o1 + j * 3, none⟩ = some (.string rx[j].key) := by rw [hwr]; exact hc 0 _ rfl
      have r0 : wr.cell? ⟨g2, o2 + j * 3, none⟩ = some (.string rx[j].key) := by rw [hwr]; exact hc2' 0 _ rfl
      have q1 : wr.cell? ⟨g1, o1 + j * 3 + 1, none⟩ = some (.string rx[j].value) := by rw [hwr]; exact hc 1 _ rfl
      have r1 : wr.cell? ⟨g2, o2 + j * 3 + 1, none⟩ = some (.string rx[j].value) := by rw [hwr]; exact hc2' 1 _ rfl
      have q2 : wr.cell? ⟨g1, o1 + j * 3 + 2, none⟩ = some (.int .i64 rx[j].effect) := by rw [hwr]; exact hc 2 _ rfl
      have r2 : wr.cell? ⟨g2, o2 + j * 3 + 2, none⟩ = some (.int .i64 rx[j].effect) := by rw [hwr]; exact hc2' 2 _ rfl
      have hj0 : (0 : Int) ≤ (j : Int) := by omega
      have hjn : (j : Int) < (rx.length : Int) := by omega
      clear hwr hc hls hus hc2' hls2 hus2 hg1' hg2'
      generalize rx[j] = x at q0 r0 q1 r1 q2 r2
      go_wp2_with fail
      go_quiet (fail)
      go_wp2_with fail
      go_roundw
      case rel => exact ⟨j + 1, by omega, by go_num, drew_of Hw.out _⟩
      case measure => simp [intOf]; omega
    · obtain rfl : j = rx.length := by omega
      clear hwr
      go_wp2_with fail
      go_loopw [14] (fun i wr => ∃ j : Nat, j ≤ ry.length ∧ i = .int .i64 j ∧ ∃ n, wr = w6.drewN n) (fun i _ => ry.length - (intOf i).toNat)
      case atStart => exact ⟨0, Nat.zero_le _, rfl, Hw.out⟩
      case round =>
        clear Hw
        obtain ⟨j, hj, rfl, n0, hwr⟩ := hrel
        have Hw : Hid (∃ n, wr = w6.drewN n) := ⟨n0, hwr⟩
        by_cases hlt : j < ry.length
        · obtain ⟨g1, o1, rfl, hg1', us, hus, hc, hls⟩ := EY.out.get hlt
          obtain ⟨rfl, _⟩ := Tolerance.opened hls
          obtain ⟨g2, o2, rfl, hg2', us2, hus2, hc2', hls2⟩ := EQ.out.get hlt
          obtain ⟨rfl, _⟩ := Tolerance.opened hls2
          have q0 : wr.cell? ⟨g1, o1 + j * 4, none⟩ = some (.string ry[j].key) := by rw [hwr]; exact hc 0 _ rfl
          have r0 : wr.cell? ⟨g2, o2 + j * 4, none⟩ = some (.string ry[j].key) := by rw [hwr]; exact hc2' 0 _ rfl
          have q1 : wr.cell? ⟨g1, o1 + j * 4 + 1, none⟩ = some (.bool ry[j].equal) := by rw [hwr]; exact hc 1 _ rfl
          have r1 : wr.cell? ⟨g2, o2 + j * 4 + 1, none⟩ = some (.bool ry[j].equal) := by rw [hwr]; exact hc2' 1 _ rfl
          have q2 : wr.cell? ⟨g1, o1 + j * 4 + 2, none⟩ = some (.string ry[j].value) := by rw [hwr]; exact hc 2 _ rfl
          have r2 : wr.cell? ⟨g2, o2 + j * 4 + 2, none⟩ = some (.string ry[j].value) := by rw [hwr]; exact hc2' 2 _ rfl
          have q3 : wr.cell? ⟨g1, o1 + j * 4 + 3, none⟩ = some (.int .i64 ry[j].effect) := by rw [hwr]; exact hc 3 _ rfl
          have r3 : wr.cell? ⟨g2, o2 + j * 4 + 3, none⟩ = some (.int .i64 ry[j].effect) := by rw [hwr]; exact hc2' 3 _ rfl
          have hj0 : (0 : Int) ≤ (j : Int) := by omega
          have hjn : (j : Int) < (ry.length : Int) := by omega
          clear hwr hc hls hus hc2' hls2 hus2 hg1' hg2'
          generalize ry[j] = x at q0 r0 q1 r1 q2 r2 q3 r3
          go_wp2_with fail
          go_quiet (fail)
          go_wp2_with fail
          go_roundw
          case rel => exact ⟨j + 1, by omega, by go_num, drew_of Hw.out _⟩
          case measure => simp [intOf]; omega
        · obtain rfl : j = ry.length := by omega
          have hB0 : Below w6.heap.size w6 wr := by rw [hwr]; exact below_drewN (Below.refl _ _) _
          clear hwr Hw EX EY EP EQ
          have BB := Lib.hid hB0
          clear hB0
          have e1 : (r1 == r1) = true := beq_self_eq_true _
          have e2 : (r2 == r2) = true := beq_self_eq_true _
          rcases W1.out with rfl | ⟨rfl, rfl⟩
          · skip
            rcases W2.out with rfl | ⟨rfl, rfl⟩
            · skip
              go_wp2_with fail
              refine (HT1.out _ BB.out).mono ?_
              rintro e z1 ⟨rfl, hb⟩
              have BB' := Lib.hid (below_link BB.out hb BB.out.size)
              clear BB hb
              have BB := BB'
              clear BB'
              go_wp2_with fail
              refine (HT2.out _ BB.out).mono ?_
              rintro e z2 ⟨rfl, hb⟩
              have BB' := Lib.hid (below_link BB.out hb BB.out.size)
              clear BB hb
              have BB := BB'
              clear BB'
              go_wp2_with fail
              refine (HO1.out _ BB.out).mono ?_
              rintro e z3 ⟨rfl, hb⟩
              have BB' := Lib.hid (below_link BB.out hb BB.out.size)
              clear BB hb
              have BB := BB'
              clear BB'
              go_wp2_with fail
              refine (HO2.out _ BB.out).mono ?_
              rintro e z4 ⟨rfl, hb⟩
              have BB' := Lib.hid (below_link BB.out hb BB.out.size)
              clear BB hb
              have BB := BB'
              clear BB'
              go_wp2_with fail
              refine (HN.out _).mono ?_
              rintro e z5 ⟨rfl, hb⟩
              have BB' := Lib.hid (below_link BB.out hb BB.out.size)
              clear BB hb
              have BB := BB'
              clear BB'
              go_wp2_with fail
              go_ret
              exact ⟨rfl, below_link B6.out BB.out B6.out.size⟩
            · skip
              go_wp2_with fail
              refine (HT1.out _ BB.out).mono ?_
              rintro e z1 ⟨rfl, hb⟩
              have BB' := Lib.hid (below_link BB.out hb BB.out.size)
              clear BB hb
              have BB := BB'
              clear BB'
              go_wp2_with fail
              refine (HT2.out _ BB.out).mono ?_
              rintro e z2 ⟨rfl, hb⟩
              have BB' := Lib.hid (below_link BB.out hb BB.out.size)
              clear BB hb
              have BB := BB'
              clear BB'
              go_wp2_with fail
              refine (HO1.out _ BB.out).mono ?_
              rintro e z3 ⟨rfl, hb⟩
              have BB' := Lib.hid (below_link BB.out hb BB.out.size)
              clear BB hb
              have BB := BB'
              clear BB'
              go_wp2_with fail
              refine (HO2.out _ BB.out).mono ?_
              rintro e z4 ⟨rfl, hb⟩
              have BB' := Lib.hid (below_link BB.out hb BB.out.size)
              clear BB hb
              have BB := BB'
              clear BB'
              go_wp2_with fail
              refine (HO1.out _ BB.out).mono ?_
              rintro e z5 ⟨rfl, hb⟩
              have BB' := Lib.hid (below_link BB.out hb BB.out.size)
              clear BB hb
              have BB := BB'
              clear BB'
              go_wp2_with fail
              refine (HN.out _).mono ?_
              rintro e z6 ⟨rfl, hb⟩
              have BB' := Lib.hid (below_link BB.out hb BB.out.size)
              clear BB hb
              have BB := BB'
              clear BB'
              go_wp2_with fail
              go_ret
              exact ⟨rfl, below_link B6.out BB.out B6.out.size⟩
          · skip
            rcases W2.out with rfl | ⟨rfl, rfl⟩
            · skip
              go_wp2_with fail
              refine (HT1.out _ BB.out).mono ?_
              rintro e z1 ⟨rfl, hb⟩
              have BB' := Lib.hid (below_link BB.out hb BB.out.size)
              clear BB hb
              have BB := BB'
              clear BB'
              go_wp2_with fail
              refine (HT2.out _ BB.out).mono ?_
              rintro e z2 ⟨rfl, hb⟩
              have BB' := Lib.hid (below_link BB.out hb BB.out.size)
              clear BB hb
              have BB := BB'
              clear BB'
              go_wp2_with fail
              refine (HO1.out _ BB.out).mono ?_
              rintro e z3 ⟨rfl, hb⟩
              have BB' := Lib.hid (below_link BB.out hb BB.out.size)
              clear BB hb
              have BB := BB'
              clear BB'
              go_wp2_with fail
              refine (HO2.out _ BB.out).mono ?_
              rintro e z4 ⟨rfl, hb⟩
              have BB' := Lib.hid (below_link BB.out hb BB.out.size)
              clear BB hb
              have BB := BB'
              clear BB'
              go_wp2_with fail
              refine (HT1.out _ BB.out).mono ?_
              rintro e z5 ⟨rfl, hb⟩
              have BB' := Lib.hid (below_link BB.out hb BB.out.size)
              clear BB hb
              have BB := BB'
              clear BB'
              go_wp2_with fail
              refine (HN.out _).mono ?_
              rintro e z6 ⟨rfl, hb⟩
              have BB' := Lib.hid (below_link BB.out hb BB.out.size)
              clear BB hb
              have BB := BB'
              clear BB'
              go_wp2_with fail
              go_ret
              exact ⟨rfl, below_link B6.out BB.out B6.out.size⟩
            · skip
              go_wp2_with fail
              refine (HT1.out _ BB.out).mono ?_
              rintro e z1 ⟨rfl, hb⟩
              have BB' := Lib.hid (below_link BB.out hb BB.out.size)
              clear BB hb
              have BB := BB'
              clear BB'
              go_wp2_with fail
              refine (HT2.out _ BB.out).mono ?_
              rintro e z2 ⟨rfl, hb⟩
              have BB' := Lib.hid (below_link BB.out hb BB.out.size)
              clear BB hb
              have BB := BB'
              clear BB'
              go_wp2_with fail
              refine (HO1.out _ BB.out).mono ?_
              rintro e z3 ⟨rfl, hb⟩
              have BB' := Lib.hid (below_link BB.out hb BB.out.size)
              clear BB hb
              have BB := BB'
              clear BB'
              go_wp2_with fail
              refine (HO2.out _ BB.out).mono ?_
              rintro e z4 ⟨rfl, hb⟩
              have BB' := Lib.hid (below_link BB.out hb BB.out.size)
              clear BB hb
              have BB := BB'
              clear BB'
              go_wp2_with fail
              refine (HT1.out _ BB.out).mono ?_
              rintro e z5 ⟨rfl, hb⟩
              have BB' := Lib.hid (below_link BB.out hb BB.out.size)
              clear BB hb
              have BB := BB'
              clear BB'
              go_wp2_with fail
              refine (HO1.out _ BB.out).mono ?_
              rintro e z6 ⟨rfl, hb⟩
              have BB' := Lib.hid (below_link BB.out hb BB.out.size)
              clear BB hb
              have BB := BB'
              clear BB'
              go_wp2_with fail
              refine (HN.out _).mono ?_
              rintro e z7 ⟨rfl, hb⟩
              have BB' := Lib.hid (below_link BB.out hb BB.out.size)
              clear BB hb
              have BB := BB'
              clear BB'
              go_wp2_with fail
              go_ret
              exact ⟨rfl, below_link B6.out BB.out B6.out.size⟩
end Go.Proofs.YtpadpiibiocabaaGreatDoor.fnTaints
