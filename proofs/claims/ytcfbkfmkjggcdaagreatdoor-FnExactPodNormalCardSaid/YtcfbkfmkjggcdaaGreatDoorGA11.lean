/- Merged: OksToleranceS PodS ToStr ToNeed ToNeedS. -/
import Derived.Test.YtcfbkfmkjggcdaaGreatDoorGA10
import Derived.Test.YtcfbkfmkjggcdaaGreatDoorGA1
import Derived.Test.YtcfbkfmkjggcdaaGreatDoorGA4
import Derived.Laws.Cover1
import Derived.Test.YtcfbkfmkjggcdaaGreatDoorGA5
import Derived.Test.YtcfbkfmkjggcdaaGreatDoorGA6
import Derived.Test.YtcfbkfmkjggcdaaGreatDoorGA3
import Derived.Test.YtcfbkfmkjggcdaaGreatDoorGA17
import Derived.Test.YtcfbkfmkjggcdaaGreatDoorRows
import Derived.ProofKit
import Derived.OpenShut
import Derived.Deep.WholeRow
import Derived.OwnWalk
namespace Go.Proofs.YtcfbkfmkjggcdaaGreatDoor.taint
open Go.ChangeShapes Go.WideShapes Go.ChangeAt Go.RowKit ty lab dedup need
set_option linter.unusedVariables false

set_option maxRecDepth 100000 in
set_option maxHeartbeats 16000000 in
theorem spec_oksTolerance (l : List Tolerance) (f : Nat) (v : Value) (w : World) (h : Lies w f v (.sl 4 l.length (l.flatMap Tolerance.row))) (hz : wsum Tolerance.wt l ≤ 1048576) :
    Calls Tryz.prog 55 #[v] w fun e w' => e = .returned (.bool (yes (TolsP l))) ∧ Below w.heap.size w w' := by
  obtain ⟨A, c, rfl, hc1, hc2, f', rfl, hk⟩ := els_of Tolerance.row_length h
  unfold maxLen at hc2
  obtain ⟨R, hR⟩ : ∃ R, yes (TolsP l) = R := ⟨_, rfl⟩
  rw [hR]
  have Hno : Hid (¬ TolsP l → R = false) := fun h => by rw [← hR]; exact yes_f h
  have Hyes : Hid (TolsP l → R = true) := fun h => by rw [← hR]; exact yes_t h
  have Hk := Lib.hid hk
  have Hz := Lib.hid (fun j (hj : j < l.length) => Nat.le_trans (wsum_mem Tolerance.wt hj) hz)
  clear h hk hR hz
  by_cases h4 : 4 < l.length
  · have Hf := Lib.hid (Hno.out fun h2 => by have := h2.1; omega)
    go_enter Tryz.func55, Tryz.ntmps55
    go_wp2_with fail
    go_ret
    exact ⟨by rw [Hf.out]; rfl, Below.refl _ _⟩
  have Hmk := Lib.hid (fun h3 => Hyes.out ⟨by omega, h3⟩)
  have Hng := Lib.hid (fun (h3 : ¬ GoodL TolP befT l l.length) => Hno.out (fun h => h3 h.2))
  clear Hno Hyes
  go_enter Tryz.func55, Tryz.ntmps55
  go_wp2_with fail
  go_loopw [3] (fun i wr => ∃ j : Nat, j ≤ l.length ∧ i = .int .i64 j ∧ Hid (GoodL TolP befT l j) ∧ Below w.heap.size w wr) (fun i _ => l.length - (intOf i).toNat)
  case atStart => exact ⟨0, Nat.zero_le _, rfl, fun i hi hj => by omega, Below.refl _ _⟩
  case round =>
    obtain ⟨j, hj, rfl, hgood, hbel⟩ := hrel
    have Hbel := Lib.hid hbel
    by_cases hlt : j < l.length
    · obtain ⟨g, o, rfl, hg, us, hus, hc, hls⟩ := (Hk.out.below hbel).get hlt
      obtain ⟨rfl, hwf⟩ := Tolerance.opened hls
      have q0 : ∀ p : BelowBy wr, p.v.cell? ⟨g, o + j * 4, none⟩ = some (.string l[j].key) := fun p => p.cell hg (hc 0 _ rfl)
      have q1 : ∀ p : BelowBy wr, p.v.cell? ⟨g, o + j * 4 + 1, none⟩ = some (.bool l[j].equal) := fun p => p.cell hg (hc 1 _ rfl)
      have q2 : ∀ p : BelowBy wr, p.v.cell? ⟨g, o + j * 4 + 2, none⟩ = some (.string l[j].value) := fun p => p.cell hg (hc 2 _ rfl)
      have q3 : ∀ p : BelowBy wr, p.v.cell? ⟨g, o + j * 4 + 3, none⟩ = some (.int .i64 l[j].effect) := fun p => p.cell hg (hc 3 _ rfl)
      have HN := Lib.hid (fun p : BelowBy wr => spec_tol l[j] p.v (Hz.out j hlt))
      have HW2 : Hid (∀ p : BelowBy wr, Below w.heap.size w p.v) := fun p => below_link hbel p.h hbel.size
      have hj0 : (0 : Int) ≤ (j : Int) := by omega
      have hjn : (j : Int) < (l.length : Int) := by omega
      by_cases hP : TolP l[j]
      case neg =>
        have Hf := Lib.hid (Hng.out fun h2 => hP (h2 j hlt hlt).1)
        rw [yes_f hP] at HN
        clear hP Hng Hmk hgood hls hus hc hg hwf Hk hbel
        generalize l[j] = x at *
        go_wp2_with fail
        refine wp_region_quiet_below (by kernel_rfl) (by kernel_rfl) ?_
        repeat (refine @wpQuiet_step _ _ _ _ _ _ _ ?_; intro K hK; go_simp; first | (refine hK _ ?_; clear hK K) | (apply Exists.intro; refine ⟨fun _ => ?_, hK _ ?_⟩; (first | (go_at_call 120; exact Calls.below_of (HN.out _))); clear hK K))
        refine wpQuiet_nil ?_
        intro _ hw'
        obtain ⟨p, rfl⟩ := hw'
        go_wp2_with fail
        go_ret
        exact ⟨by rw [Hf.out]; rfl, HW2.out p⟩
      rw [yes_t hP] at HN
      by_cases hz : j = 0
      · have Hg := Lib.hid (goodL_next hgood.out hlt hP (fun m hm => by omega))
        have hn0 : ¬ (0 : Int) < (j : Int) := by omega
        have hn1 : ¬ 0 < j := by omega
        clear hP Hng Hmk hgood hls hus hc hg hwf Hk hz hbel
        generalize l[j] = x at *
        go_wp2_with fail
        refine wp_region_quiet_below (by kernel_rfl) (by kernel_rfl) ?_
        repeat (refine @wpQuiet_step _ _ _ _ _ _ _ ?_; intro K hK; go_simp; first | (refine hK _ ?_; clear hK K) | (apply Exists.intro; refine ⟨fun _ => ?_, hK _ ?_⟩; (first | (go_at_call 120; exact Calls.below_of (HN.out _))); clear hK K))
        refine wpQuiet_nil ?_
        intro _ hw'
        obtain ⟨p, rfl⟩ := hw'
        go_wp2_with fail
        go_roundw
        case rel => exact ⟨j + 1, by omega, by go_num, Hg.out, HW2.out p⟩
        case measure => simp [intOf]; omega
      obtain ⟨m, hm⟩ : ∃ m, m + 1 = j := ⟨j - 1, by omega⟩
      have hml : m < l.length := by omega
      obtain ⟨g', o', hA3, hg2, us2, hus2, hc2', hls2⟩ := (Hk.out.below hbel).get hml
      injection hA3 with hA3
      injection hA3 with e1 e2
      subst e1 e2
      obtain ⟨rfl, _⟩ := Tolerance.opened hls2
      have HC := Lib.hid (fun p : BelowBy wr => spec_befT l[m] l[j] p.v)
      have R0 : ∀ p : BelowBy wr, p.v.cell? ⟨g, o + m * 4, none⟩ = some (.string l[m].key) := fun p => p.cell hg (hc2' 0 _ rfl)
      have R1 : ∀ p : BelowBy wr, p.v.cell? ⟨g, o + m * 4 + 1, none⟩ = some (.bool l[m].equal) := fun p => p.cell hg (hc2' 1 _ rfl)
      have R2 : ∀ p : BelowBy wr, p.v.cell? ⟨g, o + m * 4 + 2, none⟩ = some (.string l[m].value) := fun p => p.cell hg (hc2' 2 _ rfl)
      have R3 : ∀ p : BelowBy wr, p.v.cell? ⟨g, o + m * 4 + 3, none⟩ = some (.int .i64 l[m].effect) := fun p => p.cell hg (hc2' 3 _ rfl)
      have hmi : (j : Int) - 1 = (m : Int) := by omega
      have hwm : IntKind.i64.wrap (m : Int) = (m : Int) := IntWalk.i64_in _ (by omega)
      have hm0 : (0 : Int) ≤ (m : Int) := by omega
      have hm1 : (m : Int) < (l.length : Int) := by omega
      have hjp : (0 : Int) < (j : Int) := by omega
      have hjp1 : 0 < j := by omega
      cases hb : befT l[m] l[j] with
      | true =>
        have Hg := Lib.hid (goodL_next hgood.out hlt hP (fun m' hm' => by obtain rfl : m' = m := by omega
                                                                          exact hb))
        rw [hb] at HC
        clear hP Hng Hmk hgood hls hus hc hg hwf hls2 hus2 hc2' hg2 Hk hz hm hb hbel
        generalize l[j] = x at *
        generalize l[m] = y at *
        go_wp2_with fail
        refine wp_region_quiet_below (by kernel_rfl) (by kernel_rfl) ?_
        repeat (refine @wpQuiet_step _ _ _ _ _ _ _ ?_; intro K hK; go_simp; first | (refine hK _ ?_; clear hK K) | (apply Exists.intro; refine ⟨fun _ => ?_, hK _ ?_⟩; (first | (go_at_call 120; exact Calls.below_of (HN.out _)) | (go_at_call 113; exact Calls.below_of (HC.out _))); clear hK K))
        refine wpQuiet_nil ?_
        intro _ hw'
        obtain ⟨p, rfl⟩ := hw'
        go_wp2_with fail
        go_roundw
        case rel => exact ⟨j + 1, by omega, by go_num, Hg.out, HW2.out p⟩
        case measure => simp [intOf]; omega
      | false =>
        have Hf := Lib.hid (Hng.out fun h2 => by
          have := (h2 j hlt hlt).2 m hm
          rw [hb] at this; cases this)
        rw [hb] at HC
        clear hP Hng Hmk hgood hls hus hc hg hwf hls2 hus2 hc2' hg2 Hk hz hm hb hbel
        generalize l[j] = x at *
        generalize l[m] = y at *
        go_wp2_with fail
        refine wp_region_quiet_below (by kernel_rfl) (by kernel_rfl) ?_
        repeat (refine @wpQuiet_step _ _ _ _ _ _ _ ?_; intro K hK; go_simp; first | (refine hK _ ?_; clear hK K) | (apply Exists.intro; refine ⟨fun _ => ?_, hK _ ?_⟩; (first | (go_at_call 120; exact Calls.below_of (HN.out _)) | (go_at_call 113; exact Calls.below_of (HC.out _))); clear hK K))
        refine wpQuiet_nil ?_
        intro _ hw'
        obtain ⟨p, rfl⟩ := hw'
        go_wp2_with fail
        go_ret
        exact ⟨by rw [Hf.out]; rfl, HW2.out p⟩
    · obtain rfl : j = l.length := by omega
      have Hf := Lib.hid (Hmk.out hgood.out)
      clear hgood hbel
      go_wp2_with fail
      go_ret
      exact ⟨by rw [Hf.out]; rfl, Hbel.out⟩
end Go.Proofs.YtcfbkfmkjggcdaaGreatDoor.taint
namespace Go.Proofs.YtcfbkfmkjggcdaaGreatDoor.pod
open Go.ChangeShapes Go.WideShapes Go.ChangeAt Go.RowKit ty lab need taint
set_option linter.unusedVariables false
set_option maxRecDepth 100000 in
set_option maxHeartbeats 32000000 in
theorem spec_pod (x : Pod) (f : Nat) (us : List Value) (w : World) (h : LiesS w f us x.row) (hz : x.wt ≤ 1048576) :
    Calls Tryz.prog 16 #[.agg us.toArray] w fun e w' => e = .returned (.bool (yes (PodP x))) ∧ Below w.heap.size w w' := by
  obtain ⟨R, hR⟩ : ∃ R, yes (PodP x) = R := ⟨_, rfl⟩
  rw [hR]
  have Hno : Hid (¬ PodP x → R = false) := fun h => by rw [← hR]; exact yes_f h
  have Hyes : Hid (PodP x → R = true) := fun h => by rw [← hR]; exact yes_t h
  clear hR
  obtain ⟨a0, a1, a2, a3, a4, a5, a6⟩ := x
  obtain ⟨A1, c1, A5, c5, A6, c6, rfl, hwf, k1, m1, l1, k5, m5, l5, k6, m6, l6⟩ := Pod.opened h
  unfold Pod.wt at hz
  simp only at hz hwf k1 m1 l1 k5 m5 l5 k6 m6 l6
  obtain ⟨w1, hw1⟩ : ∃ w1, w1 = w.alloc (.cells #[.string a0, .slice A1 a1.length c1, .int .i64 a2, .int .i64 a3, .int .i64 a4, .slice A5 a5.length c5, .slice A6 a6.length c6] 28) := ⟨_, rfl⟩
  have hb1 : Below w.heap.size w w1 := by rw [hw1]; exact (Below.refl _ _).alloc (Nat.le_refl _) _
  have R1 := Lib.hid (show RowE 28 w1 w.heap.size [.string a0, .slice A1 a1.length c1, .int .i64 a2, .int .i64 a3, .int .i64 a4, .slice A5 a5.length c5, .slice A6 a6.length c6] by rw [hw1]; exact RowE.new _ _ _)
  have Hw1 := Lib.hid hw1
  have C0 := Lib.hid (fun w' (hb : Below w.heap.size w w') => drew_below (spec_name a0 w' (by omega)))
  have C1 := Lib.hid (fun w' (hb : Below w.heap.size w w') => drew_below (spec_labels a1 f _ w' (l1.below hb) (small_of (by omega))))
  have C5 := Lib.hid (fun w' (hb : Below w.heap.size w w') => spec_sel a5 f _ w' (l5.below hb) (by omega))
  have C6 := Lib.hid (fun w' (hb : Below w.heap.size w w') => spec_oksTolerance a6 f _ w' (l6.below hb) (by omega))
  have HB1 := Lib.hid hb1
  clear h hz hwf hb1 hw1 k1 m1 l1 k5 m5 l5 k6 m6 l6
  by_cases h0 : NameP a0
  case neg =>
    have Hf := Lib.hid (Hno.out fun h => h0 h.name)
    clear Hno Hyes
    rw [yes_f h0] at C0
    clear h0
    go_enter Tryz.func16, Tryz.ntmps16
    go_wp2_with fail
    rw [← Hw1.out]
    refine (C0.out _ HB1.out).mono ?_
    rintro e y0 ⟨rfl, b0⟩
    have HB10 := Lib.hid (below_link HB1.out b0 HB1.out.size)
    have R10 := Lib.hid (R1.out.below b0)
    clear b0
    have p0_0 := R10.out.cell 0 _ rfl
    have p1_0 := R10.out.cell 1 _ rfl
    have p2_0 := R10.out.cell 2 _ rfl
    have p3_0 := R10.out.cell 3 _ rfl
    have p4_0 := R10.out.cell 4 _ rfl
    have p5_0 := R10.out.cell 5 _ rfl
    have p6_0 := R10.out.cell 6 _ rfl
    go_wp2_with fail
    go_ret
    exact ⟨by rw [Hf.out]; rfl, HB10.out⟩
  rw [yes_t h0] at C0
  by_cases h1 : LabelsP a1
  case neg =>
    have Hf := Lib.hid (Hno.out fun h => h1 h.labels)
    clear Hno Hyes
    rw [yes_f h1] at C1
    clear h0 h1
    go_enter Tryz.func16, Tryz.ntmps16
    go_wp2_with fail
    rw [← Hw1.out]
    refine (C0.out _ HB1.out).mono ?_
    rintro e y0 ⟨rfl, b0⟩
    have HB10 := Lib.hid (below_link HB1.out b0 HB1.out.size)
    have R10 := Lib.hid (R1.out.below b0)
    clear b0
    have p0_0 := R10.out.cell 0 _ rfl
    have p1_0 := R10.out.cell 1 _ rfl
    have p2_0 := R10.out.cell 2 _ rfl
    have p3_0 := R10.out.cell 3 _ rfl
    have p4_0 := R10.out.cell 4 _ rfl
    have p5_0 := R10.out.cell 5 _ rfl
    have p6_0 := R10.out.cell 6 _ rfl
    go_wp2_with fail
    refine (C1.out _ HB10.out).mono ?_
    rintro e y1 ⟨rfl, b1⟩
    have HB11 := Lib.hid (below_link HB10.out b1 HB10.out.size)
    have R11 := Lib.hid (R10.out.below b1)
    clear p0_0 p1_0 p2_0 p3_0 p4_0 p5_0 p6_0
    clear b1
    have p0_1 := R11.out.cell 0 _ rfl
    have p1_1 := R11.out.cell 1 _ rfl
    have p2_1 := R11.out.cell 2 _ rfl
    have p3_1 := R11.out.cell 3 _ rfl
    have p4_1 := R11.out.cell 4 _ rfl
    have p5_1 := R11.out.cell 5 _ rfl
    have p6_1 := R11.out.cell 6 _ rfl
    go_wp2_with fail
    go_ret
    exact ⟨by rw [Hf.out]; rfl, HB11.out⟩
  rw [yes_t h1] at C1
  by_cases h2 : 0 ≤ a2
  case neg =>
    have Hf := Lib.hid (Hno.out fun h => h2 h.cpu)
    clear Hno Hyes
    have g2 := decide_eq_false h2
    clear h0 h1
    go_enter Tryz.func16, Tryz.ntmps16
    go_wp2_with fail
    rw [← Hw1.out]
    refine (C0.out _ HB1.out).mono ?_
    rintro e y0 ⟨rfl, b0⟩
    have HB10 := Lib.hid (below_link HB1.out b0 HB1.out.size)
    have R10 := Lib.hid (R1.out.below b0)
    clear b0
    have p0_0 := R10.out.cell 0 _ rfl
    have p1_0 := R10.out.cell 1 _ rfl
    have p2_0 := R10.out.cell 2 _ rfl
    have p3_0 := R10.out.cell 3 _ rfl
    have p4_0 := R10.out.cell 4 _ rfl
    have p5_0 := R10.out.cell 5 _ rfl
    have p6_0 := R10.out.cell 6 _ rfl
    go_wp2_with fail
    refine (C1.out _ HB10.out).mono ?_
    rintro e y1 ⟨rfl, b1⟩
    have HB11 := Lib.hid (below_link HB10.out b1 HB10.out.size)
    have R11 := Lib.hid (R10.out.below b1)
    clear p0_0 p1_0 p2_0 p3_0 p4_0 p5_0 p6_0
    clear b1
    have p0_1 := R11.out.cell 0 _ rfl
    have p1_1 := R11.out.cell 1 _ rfl
    have p2_1 := R11.out.cell 2 _ rfl
    have p3_1 := R11.out.cell 3 _ rfl
    have p4_1 := R11.out.cell 4 _ rfl
    have p5_1 := R11.out.cell 5 _ rfl
    have p6_1 := R11.out.cell 6 _ rfl
    go_wp2_with fail
    go_ret
    exact ⟨by rw [Hf.out]; rfl, HB11.out⟩
  have g2 := decide_eq_true h2
  by_cases h3 : 0 ≤ a3
  case neg =>
    have Hf := Lib.hid (Hno.out fun h => h3 h.mem)
    clear Hno Hyes
    have g3 := decide_eq_false h3
    clear h0 h1
    go_enter Tryz.func16, Tryz.ntmps16
    go_wp2_with fail
    rw [← Hw1.out]
    refine (C0.out _ HB1.out).mono ?_
    rintro e y0 ⟨rfl, b0⟩
    have HB10 := Lib.hid (below_link HB1.out b0 HB1.out.size)
    have R10 := Lib.hid (R1.out.below b0)
    clear b0
    have p0_0 := R10.out.cell 0 _ rfl
    have p1_0 := R10.out.cell 1 _ rfl
    have p2_0 := R10.out.cell 2 _ rfl
    have p3_0 := R10.out.cell 3 _ rfl
    have p4_0 := R10.out.cell 4 _ rfl
    have p5_0 := R10.out.cell 5 _ rfl
    have p6_0 := R10.out.cell 6 _ rfl
    go_wp2_with fail
    refine (C1.out _ HB10.out).mono ?_
    rintro e y1 ⟨rfl, b1⟩
    have HB11 := Lib.hid (below_link HB10.out b1 HB10.out.size)
    have R11 := Lib.hid (R10.out.below b1)
    clear p0_0 p1_0 p2_0 p3_0 p4_0 p5_0 p6_0
    clear b1
    have p0_1 := R11.out.cell 0 _ rfl
    have p1_1 := R11.out.cell 1 _ rfl
    have p2_1 := R11.out.cell 2 _ rfl
    have p3_1 := R11.out.cell 3 _ rfl
    have p4_1 := R11.out.cell 4 _ rfl
    have p5_1 := R11.out.cell 5 _ rfl
    have p6_1 := R11.out.cell 6 _ rfl
    go_wp2_with fail
    go_ret
    exact ⟨by rw [Hf.out]; rfl, HB11.out⟩
  have g3 := decide_eq_true h3
  by_cases h4 : (0 : Int) ≤ a4 ∧ a4 ≤ 1000
  case neg =>
    have Hf := Lib.hid (Hno.out fun h => h4 ⟨h.lo, h.hi⟩)
    clear Hno Hyes
    have C4 := Lib.hid (fun w' => in_below a4 0 1000 w')
    rw [yes_f h4] at C4
    clear h0 h1 h4
    go_enter Tryz.func16, Tryz.ntmps16
    go_wp2_with fail
    rw [← Hw1.out]
    refine (C0.out _ HB1.out).mono ?_
    rintro e y0 ⟨rfl, b0⟩
    have HB10 := Lib.hid (below_link HB1.out b0 HB1.out.size)
    have R10 := Lib.hid (R1.out.below b0)
    clear b0
    have p0_0 := R10.out.cell 0 _ rfl
    have p1_0 := R10.out.cell 1 _ rfl
    have p2_0 := R10.out.cell 2 _ rfl
    have p3_0 := R10.out.cell 3 _ rfl
    have p4_0 := R10.out.cell 4 _ rfl
    have p5_0 := R10.out.cell 5 _ rfl
    have p6_0 := R10.out.cell 6 _ rfl
    go_wp2_with fail
    refine (C1.out _ HB10.out).mono ?_
    rintro e y1 ⟨rfl, b1⟩
    have HB11 := Lib.hid (below_link HB10.out b1 HB10.out.size)
    have R11 := Lib.hid (R10.out.below b1)
    clear p0_0 p1_0 p2_0 p3_0 p4_0 p5_0 p6_0
    clear b1
    have p0_1 := R11.out.cell 0 _ rfl
    have p1_1 := R11.out.cell 1 _ rfl
    have p2_1 := R11.out.cell 2 _ rfl
    have p3_1 := R11.out.cell 3 _ rfl
    have p4_1 := R11.out.cell 4 _ rfl
    have p5_1 := R11.out.cell 5 _ rfl
    have p6_1 := R11.out.cell 6 _ rfl
    go_wp2_with fail
    refine (C4.out _).mono ?_
    rintro e y4 ⟨rfl, b4⟩
    have HB14 := Lib.hid (below_link HB11.out b4 HB11.out.size)
    have R14 := Lib.hid (R11.out.below b4)
    clear p0_1 p1_1 p2_1 p3_1 p4_1 p5_1 p6_1
    clear b4
    have p0_4 := R14.out.cell 0 _ rfl
    have p1_4 := R14.out.cell 1 _ rfl
    have p2_4 := R14.out.cell 2 _ rfl
    have p3_4 := R14.out.cell 3 _ rfl
    have p4_4 := R14.out.cell 4 _ rfl
    have p5_4 := R14.out.cell 5 _ rfl
    have p6_4 := R14.out.cell 6 _ rfl
    go_wp2_with fail
    go_ret
    exact ⟨by rw [Hf.out]; rfl, HB14.out⟩
  have C4 := Lib.hid (fun w' => in_below a4 0 1000 w')
  rw [yes_t h4] at C4
  by_cases h5 : SelP a5
  case neg =>
    have Hf := Lib.hid (Hno.out fun h => h5 h.needs)
    clear Hno Hyes
    rw [yes_f h5] at C5
    clear h0 h1 h4 h5
    go_enter Tryz.func16, Tryz.ntmps16
    go_wp2_with fail
    rw [← Hw1.out]
    refine (C0.out _ HB1.out).mono ?_
    rintro e y0 ⟨rfl, b0⟩
    have HB10 := Lib.hid (below_link HB1.out b0 HB1.out.size)
    have R10 := Lib.hid (R1.out.below b0)
    clear b0
    have p0_0 := R10.out.cell 0 _ rfl
    have p1_0 := R10.out.cell 1 _ rfl
    have p2_0 := R10.out.cell 2 _ rfl
    have p3_0 := R10.out.cell 3 _ rfl
    have p4_0 := R10.out.cell 4 _ rfl
    have p5_0 := R10.out.cell 5 _ rfl
    have p6_0 := R10.out.cell 6 _ rfl
    go_wp2_with fail
    refine (C1.out _ HB10.out).mono ?_
    rintro e y1 ⟨rfl, b1⟩
    have HB11 := Lib.hid (below_link HB10.out b1 HB10.out.size)
    have R11 := Lib.hid (R10.out.below b1)
    clear p0_0 p1_0 p2_0 p3_0 p4_0 p5_0 p6_0
    clear b1
    have p0_1 := R11.out.cell 0 _ rfl
    have p1_1 := R11.out.cell 1 _ rfl
    have p2_1 := R11.out.cell 2 _ rfl
    have p3_1 := R11.out.cell 3 _ rfl
    have p4_1 := R11.out.cell 4 _ rfl
    have p5_1 := R11.out.cell 5 _ rfl
    have p6_1 := R11.out.cell 6 _ rfl
    go_wp2_with fail
    refine (C4.out _).mono ?_
    rintro e y4 ⟨rfl, b4⟩
    have HB14 := Lib.hid (below_link HB11.out b4 HB11.out.size)
    have R14 := Lib.hid (R11.out.below b4)
    clear p0_1 p1_1 p2_1 p3_1 p4_1 p5_1 p6_1
    clear b4
    have p0_4 := R14.out.cell 0 _ rfl
    have p1_4 := R14.out.cell 1 _ rfl
    have p2_4 := R14.out.cell 2 _ rfl
    have p3_4 := R14.out.cell 3 _ rfl
    have p4_4 := R14.out.cell 4 _ rfl
    have p5_4 := R14.out.cell 5 _ rfl
    have p6_4 := R14.out.cell 6 _ rfl
    go_wp2_with fail
    refine (C5.out _ HB14.out).mono ?_
    rintro e y5 ⟨rfl, b5⟩
    have HB15 := Lib.hid (below_link HB14.out b5 HB14.out.size)
    have R15 := Lib.hid (R14.out.below b5)
    clear p0_4 p1_4 p2_4 p3_4 p4_4 p5_4 p6_4
    clear b5
    have p0_5 := R15.out.cell 0 _ rfl
    have p1_5 := R15.out.cell 1 _ rfl
    have p2_5 := R15.out.cell 2 _ rfl
    have p3_5 := R15.out.cell 3 _ rfl
    have p4_5 := R15.out.cell 4 _ rfl
    have p5_5 := R15.out.cell 5 _ rfl
    have p6_5 := R15.out.cell 6 _ rfl
    go_wp2_with fail
    go_ret
    exact ⟨by rw [Hf.out]; rfl, HB15.out⟩
  rw [yes_t h5] at C5
  by_cases h6 : TolsP a6
  case neg =>
    have Hf := Lib.hid (Hno.out fun h => h6 h.tolerances)
    clear Hno Hyes
    rw [yes_f h6] at C6
    clear h0 h1 h4 h5 h6
    go_enter Tryz.func16, Tryz.ntmps16
    go_wp2_with fail
    rw [← Hw1.out]
    refine (C0.out _ HB1.out).mono ?_
    rintro e y0 ⟨rfl, b0⟩
    have HB10 := Lib.hid (below_link HB1.out b0 HB1.out.size)
    have R10 := Lib.hid (R1.out.below b0)
    clear b0
    have p0_0 := R10.out.cell 0 _ rfl
    have p1_0 := R10.out.cell 1 _ rfl
    have p2_0 := R10.out.cell 2 _ rfl
    have p3_0 := R10.out.cell 3 _ rfl
    have p4_0 := R10.out.cell 4 _ rfl
    have p5_0 := R10.out.cell 5 _ rfl
    have p6_0 := R10.out.cell 6 _ rfl
    go_wp2_with fail
    refine (C1.out _ HB10.out).mono ?_
    rintro e y1 ⟨rfl, b1⟩
    have HB11 := Lib.hid (below_link HB10.out b1 HB10.out.size)
    have R11 := Lib.hid (R10.out.below b1)
    clear p0_0 p1_0 p2_0 p3_0 p4_0 p5_0 p6_0
    clear b1
    have p0_1 := R11.out.cell 0 _ rfl
    have p1_1 := R11.out.cell 1 _ rfl
    have p2_1 := R11.out.cell 2 _ rfl
    have p3_1 := R11.out.cell 3 _ rfl
    have p4_1 := R11.out.cell 4 _ rfl
    have p5_1 := R11.out.cell 5 _ rfl
    have p6_1 := R11.out.cell 6 _ rfl
    go_wp2_with fail
    refine (C4.out _).mono ?_
    rintro e y4 ⟨rfl, b4⟩
    have HB14 := Lib.hid (below_link HB11.out b4 HB11.out.size)
    have R14 := Lib.hid (R11.out.below b4)
    clear p0_1 p1_1 p2_1 p3_1 p4_1 p5_1 p6_1
    clear b4
    have p0_4 := R14.out.cell 0 _ rfl
    have p1_4 := R14.out.cell 1 _ rfl
    have p2_4 := R14.out.cell 2 _ rfl
    have p3_4 := R14.out.cell 3 _ rfl
    have p4_4 := R14.out.cell 4 _ rfl
    have p5_4 := R14.out.cell 5 _ rfl
    have p6_4 := R14.out.cell 6 _ rfl
    go_wp2_with fail
    refine (C5.out _ HB14.out).mono ?_
    rintro e y5 ⟨rfl, b5⟩
    have HB15 := Lib.hid (below_link HB14.out b5 HB14.out.size)
    have R15 := Lib.hid (R14.out.below b5)
    clear p0_4 p1_4 p2_4 p3_4 p4_4 p5_4 p6_4
    clear b5
    have p0_5 := R15.out.cell 0 _ rfl
    have p1_5 := R15.out.cell 1 _ rfl
    have p2_5 := R15.out.cell 2 _ rfl
    have p3_5 := R15.out.cell 3 _ rfl
    have p4_5 := R15.out.cell 4 _ rfl
    have p5_5 := R15.out.cell 5 _ rfl
    have p6_5 := R15.out.cell 6 _ rfl
    go_wp2_with fail
    refine (C6.out _ HB15.out).mono ?_
    rintro e y6 ⟨rfl, b6⟩
    have HB16 := Lib.hid (below_link HB15.out b6 HB15.out.size)
    have R16 := Lib.hid (R15.out.below b6)
    clear p0_5 p1_5 p2_5 p3_5 p4_5 p5_5 p6_5
    clear b6
    have p0_6 := R16.out.cell 0 _ rfl
    have p1_6 := R16.out.cell 1 _ rfl
    have p2_6 := R16.out.cell 2 _ rfl
    have p3_6 := R16.out.cell 3 _ rfl
    have p4_6 := R16.out.cell 4 _ rfl
    have p5_6 := R16.out.cell 5 _ rfl
    have p6_6 := R16.out.cell 6 _ rfl
    go_wp2_with fail
    go_ret
    exact ⟨by rw [Hf.out]; rfl, HB16.out⟩
  rw [yes_t h6] at C6
  have Hf := Lib.hid (Hyes.out ⟨h0, h1, h2, h3, h4.1, h4.2, h5, h6⟩)
  clear Hno Hyes h0 h1 h4 h5 h6
  go_enter Tryz.func16, Tryz.ntmps16
  go_wp2_with fail
  rw [← Hw1.out]
  refine (C0.out _ HB1.out).mono ?_
  rintro e y0 ⟨rfl, b0⟩
  have HB10 := Lib.hid (below_link HB1.out b0 HB1.out.size)
  have R10 := Lib.hid (R1.out.below b0)
  clear b0
  have p0_0 := R10.out.cell 0 _ rfl
  have p1_0 := R10.out.cell 1 _ rfl
  have p2_0 := R10.out.cell 2 _ rfl
  have p3_0 := R10.out.cell 3 _ rfl
  have p4_0 := R10.out.cell 4 _ rfl
  have p5_0 := R10.out.cell 5 _ rfl
  have p6_0 := R10.out.cell 6 _ rfl
  go_wp2_with fail
  refine (C1.out _ HB10.out).mono ?_
  rintro e y1 ⟨rfl, b1⟩
  have HB11 := Lib.hid (below_link HB10.out b1 HB10.out.size)
  have R11 := Lib.hid (R10.out.below b1)
  clear p0_0 p1_0 p2_0 p3_0 p4_0 p5_0 p6_0
  clear b1
  have p0_1 := R11.out.cell 0 _ rfl
  have p1_1 := R11.out.cell 1 _ rfl
  have p2_1 := R11.out.cell 2 _ rfl
  have p3_1 := R11.out.cell 3 _ rfl
  have p4_1 := R11.out.cell 4 _ rfl
  have p5_1 := R11.out.cell 5 _ rfl
  have p6_1 := R11.out.cell 6 _ rfl
  go_wp2_with fail
  refine (C4.out _).mono ?_
  rintro e y4 ⟨rfl, b4⟩
  have HB14 := Lib.hid (below_link HB11.out b4 HB11.out.size)
  have R14 := Lib.hid (R11.out.below b4)
  clear p0_1 p1_1 p2_1 p3_1 p4_1 p5_1 p6_1
  clear b4
  have p0_4 := R14.out.cell 0 _ rfl
  have p1_4 := R14.out.cell 1 _ rfl
  have p2_4 := R14.out.cell 2 _ rfl
  have p3_4 := R14.out.cell 3 _ rfl
  have p4_4 := R14.out.cell 4 _ rfl
  have p5_4 := R14.out.cell 5 _ rfl
  have p6_4 := R14.out.cell 6 _ rfl
  go_wp2_with fail
  refine (C5.out _ HB14.out).mono ?_
  rintro e y5 ⟨rfl, b5⟩
  have HB15 := Lib.hid (below_link HB14.out b5 HB14.out.size)
  have R15 := Lib.hid (R14.out.below b5)
  clear p0_4 p1_4 p2_4 p3_4 p4_4 p5_4 p6_4
  clear b5
  have p0_5 := R15.out.cell 0 _ rfl
  have p1_5 := R15.out.cell 1 _ rfl
  have p2_5 := R15.out.cell 2 _ rfl
  have p3_5 := R15.out.cell 3 _ rfl
  have p4_5 := R15.out.cell 4 _ rfl
  have p5_5 := R15.out.cell 5 _ rfl
  have p6_5 := R15.out.cell 6 _ rfl
  go_wp2_with fail
  refine (C6.out _ HB15.out).mono ?_
  rintro e y6 ⟨rfl, b6⟩
  have HB16 := Lib.hid (below_link HB15.out b6 HB15.out.size)
  have R16 := Lib.hid (R15.out.below b6)
  clear p0_5 p1_5 p2_5 p3_5 p4_5 p5_5 p6_5
  clear b6
  have p0_6 := R16.out.cell 0 _ rfl
  have p1_6 := R16.out.cell 1 _ rfl
  have p2_6 := R16.out.cell 2 _ rfl
  have p3_6 := R16.out.cell 3 _ rfl
  have p4_6 := R16.out.cell 4 _ rfl
  have p5_6 := R16.out.cell 5 _ rfl
  have p6_6 := R16.out.cell 6 _ rfl
  go_wp2_with fail
  go_ret
  exact ⟨by rw [Hf.out]; rfl, HB16.out⟩
end Go.Proofs.YtcfbkfmkjggcdaaGreatDoor.pod
namespace Go.Proofs.YtcfbkfmkjggcdaaGreatDoor.ty
open Go.ChangeShapes Go.WideShapes Go.ChangeAt Go.RowKit
set_option linter.unusedVariables false

theorem toStr (l : List ByteArray) (f : Nat) (v : Value) (w : World) (h : Lies w f v (.sl 1 l.length (l.flatMap Str.row))) (hw : l.length ≤ 1048576) :
    Calls Tryz.prog 188 #[v] w fun e w' => ∃ v', e = .returned v' ∧ OwnRow w' w.heap.size 1 9 1 v' l.length (l.flatMap Str.row) ∧ Below w.heap.size w w' := by
  obtain ⟨A, c, rfl, _, _, hr, hks⟩ := Str.opened h
  refine (lawStr.to_any A l.length c l w hw rfl hr).mono ?_
  rintro e w1 ⟨g, rfl, hown, hb⟩
  exact ⟨_, rfl, by rw [Str.flat]; exact ownRow_strs hown hks, hb⟩
end Go.Proofs.YtcfbkfmkjggcdaaGreatDoor.ty
namespace Go.Proofs.YtcfbkfmkjggcdaaGreatDoor.ty
open Go.ChangeShapes Go.WideShapes Go.ChangeAt Go.RowKit
set_option linter.unusedVariables false

theorem sizeNeed : (Tryz.prog.info? 69).map (·.size) = some 3 := by kernel_rfl
set_option maxRecDepth 100000 in
set_option maxHeartbeats 8000000 in
theorem toNeed (x : Need) (f : Nat) (vs : List Value) (w : World) (h : LiesS w f vs x.row) (hw : x.wt ≤ 1048576) :
    Calls Tryz.prog 129 #[.agg vs.toArray] w fun e w' => AggOut w 2 x.row e w' := by
  obtain ⟨a0, a1, a2⟩ := x
  obtain ⟨A2, c2, rfl, hwf, k2, m2, l2⟩ := Need.opened h
  unfold Need.wt at hw
  simp only at hw hwf k2 m2 l2
  obtain ⟨w1, hw1⟩ : ∃ w1, w1 = ((w.alloc (.cells #[.string a0, .int .i64 a1, .slice A2 a2.length c2] 147)).alloc (.cells #[.string ⟨#[]⟩, .int .i64 0, .slice none 0 0] 69)).alloc (.cells #[.string a0, .int .i64 a1, .slice none 0 0] 69) := ⟨_, rfl⟩
  have hsz : w1.heap.size = w.heap.size + 3 := by subst hw1; simp
  have hb1 : Below w.heap.size w w1 := by subst hw1; exact (((Below.refl _ _).alloc (Nat.le_refl _) _).alloc (by simp) _).alloc (by simp; omega) _
  have h10 : w1.heap[w.heap.size]? = some (.cells #[.string a0, .int .i64 a1, .slice A2 a2.length c2] 147 (0, 0)) := by
    subst hw1
    rw [Below.heap_alloc _ _ _ (by simp; omega), Below.heap_alloc _ _ _ (by simp)]
    exact heap_alloc_new w _
  have h11 : w1.heap[w.heap.size + 1]? = some (.cells #[.string ⟨#[]⟩, .int .i64 0, .slice none 0 0] 69 (0, 0)) := by
    subst hw1
    rw [Below.heap_alloc _ _ _ (by simp)]
    have h := heap_alloc_new (w.alloc (.cells #[.string a0, .int .i64 a1, .slice A2 a2.length c2] 147)) (.cells #[.string ⟨#[]⟩, .int .i64 0, .slice none 0 0] 69)
    simpa using h
  have h12 : w1.heap[w.heap.size + 2]? = some (.cells #[.string a0, .int .i64 a1, .slice none 0 0] 69 (0, 0)) := by
    subst hw1
    have h := heap_alloc_new ((w.alloc (.cells #[.string a0, .int .i64 a1, .slice A2 a2.length c2] 147)).alloc (.cells #[.string ⟨#[]⟩, .int .i64 0, .slice none 0 0] 69)) (.cells #[.string a0, .int .i64 a1, .slice none 0 0] 69)
    simpa using h
  have T2 := Lib.hid (fun w1 (hb : Below w.heap.size w w1) => toStr a2 f (.slice A2 a2.length c2) w1 (l2.below hb) (by omega))
  have Hwf := Lib.hid hwf
  have K0 := Lib.hid h10
  have K1 := Lib.hid h11
  have K2 := Lib.hid h12
  have Hb := Lib.hid hb1
  have Hsz := Lib.hid (show w.heap.size + 3 ≤ w1.heap.size by omega)
  have Hw1 := Lib.hid hw1
  clear h hw hwf hsz hb1 h10 h11 h12 hw1 k2 m2 l2
  go_enter Tryz.func129, Tryz.ntmps129
  go_wp2_with fail
  rw [← Hw1.out]
  clear Hw1
  refine (T2.out _ Hb.out).mono ?_
  rintro e y2 ⟨v2, rfl, r2, b2⟩
  obtain ⟨B2, d2, rfl⟩ := r2.is_slice
  have h20 := heap_kept b2 (heap_lt K0.out) K0.out
  have h21 := heap_kept b2 (heap_lt K1.out) K1.out
  have h22 := heap_kept b2 (heap_lt K2.out) K2.out
  have HB2 := Lib.hid (Hb.out.trans (b2.mono Hb.out.size))
  obtain ⟨F2, o2, n2, g2⟩ := r2.own
  have Hn2 := Lib.hid n2
  have Hr2 := Lib.hid g2
  have Hsb2 := Lib.hid (show w1.heap.size ≤ y2.heap.size from b2.size)
  have p2 : (y2).cell? ⟨w.heap.size + 2, 2, none⟩ = some (.slice none 0 0) := by rw [cell_of_row _ _ 2 _ _ _ h22]; rfl
  have f2 := frozen_of_row (y2) _ 2 _ _ h22
  have k2_2_0 : ((y2).setCell ⟨w.heap.size + 2, 2, none⟩ (.slice B2 a2.length d2)).heap[w.heap.size]? = _ := (Below.heap_setCell _ _ _ _ (by show w.heap.size ≠ w.heap.size + 2; omega)).trans h20
  have k2_2_1 : ((y2).setCell ⟨w.heap.size + 2, 2, none⟩ (.slice B2 a2.length d2)).heap[w.heap.size + 1]? = _ := (Below.heap_setCell _ _ _ _ (by show w.heap.size + 1 ≠ w.heap.size + 2; omega)).trans h21
  have k2_2_2 : ((y2).setCell ⟨w.heap.size + 2, 2, none⟩ (.slice B2 a2.length d2)).heap[w.heap.size + 2]? = some (.cells #[.string a0, .int .i64 a1, .slice B2 a2.length d2] 69 (0, 0)) := heap_setCell_same _ _ _ _ _ _ h22
  have hbz : Below w.heap.size w ((y2).setCell ⟨w.heap.size + 2, 2, none⟩ (.slice B2 a2.length d2)) := (HB2.out.setCell (by show w.heap.size ≤ w.heap.size + 2; omega) _)
  have ow2 := (Own.setCell_low o2 (o := 2) (u := .slice B2 a2.length d2) (show w.heap.size + 2 < w1.heap.size by have := Hsz.out; omega))
  have hzs : ((y2).setCell ⟨w.heap.size + 2, 2, none⟩ (.slice B2 a2.length d2)).heap.size = y2.heap.size := by simp only [size_setCell]
  clear r2 b2 o2 n2 g2 
  have H51 := Lib.hid k2_2_1
  have h52 := k2_2_2
  have h51 := H51.out
  have Hbz := Lib.hid hbz
  clear hbz h20 h21 h22
  clear k2_2_0 k2_2_1 k2_2_2
  generalize hz : (y2).setCell ⟨w.heap.size + 2, 2, none⟩ (.slice B2 a2.length d2) = z at *
  go_wp2_with (first | (refine wpList_load_row rfl 69 _ rfl (w.heap.size + 2) rfl 69 #[.string a0, .int .i64 a1, .slice B2 a2.length d2] (0, 0) _ h52 Tryz.underlying69 rfl sizeNeed ?_) | (refine wpList_store_row rfl 69 _ _ rfl (w.heap.size + 1) #[.string a0, .int .i64 a1, .slice B2 a2.length d2] rfl rfl 69 _ h51 sizeNeed rfl (by simp [Value.oneCell']) ?_) | fail)
  obtain ⟨F, ho, hnd, _⟩ := Need.owned (x := ⟨a0, a1, a2⟩) (f := 1) (w := z.setRow (w.heap.size + 1) #[.string a0, .int .i64 a1, .slice B2 a2.length d2]) Hwf.out (Own.deeper (f := 2) (f' := 2) (by decide) ((Own.setRow_low ow2 (c := #[.string a0, .int .i64 a1, .slice B2 a2.length d2]) (show w.heap.size + 1 < w1.heap.size by have := Hsz.out; omega)).lower (B' := w.heap.size) (by have := Hsz.out; omega))) Hn2.out
  refine bodyPost_ret (v := .agg #[.string a0, .int .i64 a1, .slice B2 a2.length d2]) ?_ rfl ⟨_, F, rfl, ho, hnd, setRow_below Hbz.out (by omega) _⟩
  exact results_cell_row rfl _ _ (w.heap.size + 1) _ _ (0, 0) _ rfl (setRow_at H51.out) Tryz.underlying69 rfl sizeNeed
end Go.Proofs.YtcfbkfmkjggcdaaGreatDoor.ty
namespace Go.Proofs.YtcfbkfmkjggcdaaGreatDoor.ty
open Go.ChangeShapes Go.WideShapes Go.ChangeAt Go.RowKit
set_option linter.unusedVariables false

theorem TryzinfoNeed : (Tryz.prog.info? 69).map (fun i => (i.zero, i.size, i.bytes)) = some (some (.agg #[.string ⟨#[]⟩, .int .i64 0, .slice none 0 0]), 3, 48) := by kernel_rfl
set_option maxRecDepth 100000 in
theorem toNeedS (l : List Need) (f : Nat) (v : Value) (w : World) (h : Lies w f v (.sl 3 l.length (l.flatMap Need.row))) (hw : l.length + wsum Need.wt l ≤ 1048576) :
    Calls Tryz.prog 65 #[v] w fun e w' => ∃ v', e = .returned v' ∧ OwnRow w' w.heap.size 2 69 3 v' l.length (l.flatMap Need.row) ∧ Below w.heap.size w w' := by
  obtain ⟨A, c, rfl, hc1, hc2, f', rfl, hk⟩ := els_of Need.row_length h
  obtain ⟨i0, hi, hz0, hz1, hz2⟩ := info_parts TryzinfoNeed
  unfold maxLen at hc2
  have Hk := Lib.hid hk
  have Hw := Lib.hid hw
  have hwl : l.length ≤ 1048576 := by omega
  clear h hk hw
  go_enter Tryz.func65, Tryz.ntmps65
  go_wp2_with (at_make; refine wpList_make_full _ rfl _ _ 25 rfl w.heap.size 69 i0 _ 3 Tryz.underlying25 hi hz0 hz1 .i64 .i64 (l.length : Int) (l.length : Int) l.length rfl rfl rfl rfl (by rw [hz2]; omega) (by unfold maxLen; omega) (by simp) ?_)
  intro w1 hown1 hg1
  have hb1 : Below w.heap.size w w1 := (Below.refl _ _).grown hg1 (Nat.le_refl _) (fun b hb => by cases hb)
  obtain ⟨xs, hown⟩ : ∃ xs : List Value, w1.ownsRow w.heap.size 69 3 (.slice (some ⟨w.heap.size, 0, none⟩) l.length l.length) l.length xs := ⟨_, hown1⟩
  have Hown := Lib.hid hown
  have Hb1 := Lib.hid hb1
  clear hown1 hown hb1 hg1
  go_wp2_with fail
  go_loopw [4] (fun i wr => ∃ (j : Nat) (xs : List Value) (F : List Nat), j ≤ l.length ∧ i = .int .i64 j ∧ wr.ownsRow w.heap.size 69 3 (.slice (some ⟨w.heap.size, 0, none⟩) l.length l.length) l.length xs ∧
    OwnS wr w.heap.size 2 (xs.take (j * 3)) ((l.take j).flatMap Need.row) F ∧ F.Nodup ∧ (∀ x ∈ F, x ≠ w.heap.size) ∧ Below w.heap.size w wr) (fun i _ => l.length - (intOf i).toNat)
  case atStart => exact ⟨0, xs, [], Nat.zero_le _, rfl, Hown.out, by simpa using OwnS.nil, List.nodup_nil, (fun x hx => by cases hx), Hb1.out⟩
  case round =>
    clear Hown Hb1 xs
    obtain ⟨j, xs, F, hj, rfl, hown, ho, hnd, hne, hbel⟩ := hrel
    by_cases hlt : j < l.length
    · obtain ⟨g, o, rfl, hg, us0, hus, hc, hls⟩ := (Hk.out.below hbel).get hlt
      have hwt : l[j].wt ≤ 1048576 := by have h1 := wsum_mem Need.wt hlt; have h2 := Hw.out; omega
      have HC := Lib.hid (toNeed l[j] _ us0 wr hls hwt)
      obtain ⟨A2, c2, rfl, hwf, k2, m2, l2⟩ := Need.opened hls
      have q0 : wr.cell? ⟨g, o + j * 3, none⟩ = some (.string l[j].key) := hc 0 _ rfl
      have q1 : wr.cell? ⟨g, o + j * 3 + 1, none⟩ = some (.int .i64 l[j].op) := hc 1 _ rfl
      have q2 : wr.cell? ⟨g, o + j * 3 + 2, none⟩ = some (.slice A2 l[j].values.length c2) := hc 2 _ rfl
      have hr1 : (l.take (j + 1)).flatMap Need.row = (l.take j).flatMap Need.row ++ l[j].row := by
        rw [List.take_succ_eq_append_getElem hlt, List.flatMap_append]; simp
      have Hr1 := Lib.hid hr1
      have Hown := Lib.hid hown
      have Ho := Lib.hid ho
      have Hbel := Lib.hid hbel
      have hlb : w.heap.size < wr.heap.size := (hown.lt w.heap.size rfl).2
      have Hlb := Lib.hid hlb
      have hrl := Need.row_length l[j]
      have Hrl := Lib.hid hrl
      clear hls hg hwf hr1 hown ho hbel hlb hus hc hwt hrl k2 m2 l2
      generalize l[j] = x at HC Hr1 Hrl q0 q1 q2
      go_wp2_with fail
      refine HC.out.mono ?_
      rintro e w2 ⟨us, G, rfl, hoG, hnG, hb2⟩
      have hlen : us.length = 3 := by rw [hoG.1, Hrl.out]
      have hown2 := own_below' Hown.out hb2
      have ho2 := Ho.out.below hb2
      have hthere := own_there hown2 (j * 3) us.toArray.size (by simp [hlen]; omega)
      have hone := hoG.one
      have hsize : (Tryz.prog.info? 69).map (·.size) = some us.toArray.size := by rw [List.size_toArray, hlen]; exact sizeNeed
      have Hfill := Lib.hid (own_fill hown2 hlt hlen ho2 hnd hne (hoG.lower (Nat.le_trans Hbel.out.size (Nat.le_refl _))) hnG (fun y hy hyG => by have h1 := (Ho.out.range y hy).2; have h2 := (hoG.range y hyG).1; omega) (fun y hy => by have h1 := (hoG.range y hy).1; have h2 := Hlb.out; omega) rfl)
      have Hbel2 := Lib.hid (Hbel.out.trans (hb2.mono Hbel.out.size))
      clear HC hoG hnG hb2 hown2 ho2 Ho hnd hne Hown Hbel q0 q1 q2
      go_wp2_with (first | (refine Go.wpList_store_mid rfl 69 _ _ rfl w.heap.size (j * 3) us.toArray rfl rfl hthere hsize hone ?_) | fail)
      have hf := Hfill.out
      rw [← Hr1.out] at hf
      have hbel3 : Below w.heap.size w (w2.setCells w.heap.size (j * 3) us) := Hbel2.out.grown hf.2.2.2.2 Hbel2.out.size (fun b hb => by injection hb with hb; omega)
      have HF := Lib.hid hf
      have Hbel3 := Lib.hid hbel3
      clear hf hbel3 Hfill hthere hone hsize
      go_wp2_with fail
      go_roundw
      case rel => exact ⟨j + 1, _, _, by omega, by go_num, HF.out.1, HF.out.2.1, HF.out.2.2.1, HF.out.2.2.2.1, Hbel3.out⟩
      case measure => simp [intOf]; omega
    · obtain rfl : j = l.length := by omega
      rw [List.take_of_length_le (Nat.le_refl _)] at ho
      have HR := Lib.hid (own_filled hown (by rw [flat_length' Need.row_length]) ho hnd hne)
      have Hbel := Lib.hid hbel
      clear hown ho hbel
      go_wp2_with fail
      go_ret
      exact ⟨_, rfl, HR.out, Hbel.out⟩
end Go.Proofs.YtcfbkfmkjggcdaaGreatDoor.ty
