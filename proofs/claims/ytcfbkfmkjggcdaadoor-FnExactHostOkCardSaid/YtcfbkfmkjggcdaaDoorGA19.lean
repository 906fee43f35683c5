/- Merged: AscTaint OksTaintI HostI OpTaintS TrHost OpHost. -/
import Derived.Test.YtcfbkfmkjggcdaaDoorGA17
import Derived.Test.YtcfbkfmkjggcdaaDoorGA1
import Derived.Test.YtcfbkfmkjggcdaaDoorGA2
import Derived.Laws.Cover1
import Derived.Test.YtcfbkfmkjggcdaaDoorGA6
import Derived.Test.YtcfbkfmkjggcdaaDoorGA18
import Derived.Test.YtcfbkfmkjggcdaaDoorGA7
import Derived.Test.YtcfbkfmkjggcdaaDoorGA5
import Derived.Test.YtcfbkfmkjggcdaaDoorGA8
import Derived.Test.YtcfbkfmkjggcdaaDoorGA4
namespace Go.Proofs.YtcfbkfmkjggcdaaDoor.taint
open Go.ChangeShapes Go.WideShapes Go.ChangeAt Go.RowKit ty lab dedup need
set_option linter.unusedVariables false

set_option maxRecDepth 100000 in
set_option maxHeartbeats 16000000 in
theorem impl_ascTaint (l : List Taint) (f : Nat) (v : Value) (w : World) (h : Lies w f v (.sl 3 l.length (l.flatMap Taint.row))) :
    Calls Tryd.prog 68 #[v, .func (.func 69) #[] #[], .func (.func 70) #[] #[]] w fun e w' => e = .returned (.bool (yes (GoodL TaintP lessT l l.length))) ∧ Below w.heap.size w w' := by
  obtain ⟨A, c, rfl, hc1, hc2, f', rfl, hk⟩ := els_of Taint.row_length h
  unfold maxLen at hc2
  obtain ⟨R, hR⟩ : ∃ R, yes (GoodL TaintP lessT l l.length) = R := ⟨_, rfl⟩
  rw [hR]
  have Hno : Hid (¬ GoodL TaintP lessT l l.length → R = false) := fun h => by rw [← hR]; exact yes_f h
  have Hyes : Hid (GoodL TaintP lessT l l.length → R = true) := fun h => by rw [← hR]; exact yes_t h
  have Hk := Lib.hid hk
  clear h hk hR
  go_enter Tryd.func68, Tryd.ntmps68
  go_wp2_with fail
  go_loopw [11] (fun i wr => ∃ j : Nat, j ≤ l.length ∧ i = .int .i64 j ∧ Hid (GoodL TaintP lessT l j) ∧ Below w.heap.size w wr) (fun i _ => l.length - (intOf i).toNat)
  case atStart => exact ⟨0, Nat.zero_le _, rfl, fun i hi hj => by omega, Below.refl _ _⟩
  case round =>
    obtain ⟨j, hj, rfl, hgood, hbel⟩ := hrel
    have Hbel := Lib.hid hbel
    by_cases hlt : j < l.length
    · obtain ⟨g, o, rfl, hg, us, hus, hc, hls⟩ := (Hk.out.below hbel).get hlt
      obtain ⟨rfl, hwf⟩ := Taint.opened hls
      have q0 : wr.cell? ⟨g, o + j * 3, none⟩ = some (.string l[j].key) := hc 0 _ rfl
      have q1 : wr.cell? ⟨g, o + j * 3 + 1, none⟩ = some (.string l[j].value) := hc 1 _ rfl
      have q2 : wr.cell? ⟨g, o + j * 3 + 2, none⟩ = some (.int .i64 l[j].effect) := hc 2 _ rfl
      obtain ⟨X, hX⟩ : ∃ X, X = wr.alloc (.cells #[.string l[j].key, .string l[j].value, .int .i64 l[j].effect] 100) := ⟨_, rfl⟩
      have HB := Lib.hid (Box.new 100 wr [.string l[j].key, .string l[j].value, .int .i64 l[j].effect])
      have hbX : Below wr.heap.size wr X := by rw [hX]; exact HB.out.1
      have HN := Lib.hid (fun p : BelowBy X => impl_taint l[j] p.v hwf)
      have HW2 : Hid (∀ p : BelowBy X, Below w.heap.size w p.v) := fun p => below_link hbel (hbX.trans (p.h.mono hbX.size)) hbel.size
      have B0 : ∀ p : BelowBy X, p.v.cell? ⟨wr.heap.size, 0, none⟩ = some (.string l[j].key) := fun p => p.cell (by rw [hX]; simp) (by rw [hX]; exact HB.out.cell (j := 0) rfl)
      have B1 : ∀ p : BelowBy X, p.v.cell? ⟨wr.heap.size, 1, none⟩ = some (.string l[j].value) := fun p => p.cell (by rw [hX]; simp) (by rw [hX]; exact HB.out.cell (j := 1) rfl)
      have B2 : ∀ p : BelowBy X, p.v.cell? ⟨wr.heap.size, 2, none⟩ = some (.int .i64 l[j].effect) := fun p => p.cell (by rw [hX]; simp) (by rw [hX]; exact HB.out.cell (j := 2) rfl)
      have HX := Lib.hid hX
      have hj0 : (0 : Int) ≤ (j : Int) := by omega
      have hjn : (j : Int) < (l.length : Int) := by omega
      by_cases hP : TaintP l[j]
      case neg =>
        have Hf := Lib.hid (Hno.out fun h2 => hP (h2 j hlt hlt).1)
        rw [yes_f hP] at HN
        clear hP Hno Hyes hgood hls hus hc hg hwf Hk hbel hbX hX HB
        generalize l[j] = x at *
        go_wp2_with fail
        rw [← HX.out]
        refine wp_region_quiet_below (by kernel_rfl) (by kernel_rfl) ?_
        repeat (refine @wpQuiet_step _ _ _ _ _ _ _ ?_; intro K hK; go_simp; first | (refine hK _ ?_; clear hK K) | (apply Exists.intro; refine ⟨fun _ => ?_, hK _ ?_⟩; (first | (go_at_call 69; exact Calls.below_of (HN.out _))); clear hK K))
        refine wpQuiet_nil ?_
        intro _ hw'
        obtain ⟨p, rfl⟩ := hw'
        go_wp2_with fail
        go_ret
        exact ⟨by rw [Hf.out]; rfl, HW2.out p⟩
      rw [yes_t hP] at HN
      by_cases hz : j = 0
      · have Hg := Lib.hid (goodL_next hgood.out hlt hP (fun m hm => by omega))
        have hn0 : ¬ (0 : Int) < (j : Int) := by omega
        have hn1 : ¬ 0 < j := by omega
        clear hP Hno Hyes hgood hls hus hc hg hwf Hk hz hbel hbX hX HB
        generalize l[j] = x at *
        go_wp2_with fail
        rw [← HX.out]
        refine wp_region_quiet_below (by kernel_rfl) (by kernel_rfl) ?_
        repeat (refine @wpQuiet_step _ _ _ _ _ _ _ ?_; intro K hK; go_simp; first | (refine hK _ ?_; clear hK K) | (apply Exists.intro; refine ⟨fun _ => ?_, hK _ ?_⟩; (first | (go_at_call 69; exact Calls.below_of (HN.out _))); clear hK K))
        refine wpQuiet_nil ?_
        intro _ hw'
        obtain ⟨p, rfl⟩ := hw'
        go_wp2_with fail
        go_roundw
        case rel => exact ⟨j + 1, by omega, by go_num, Hg.out, HW2.out p⟩
        case measure => simp [intOf]; omega
      obtain ⟨m, hm⟩ : ∃ m, m + 1 = j := ⟨j - 1, by omega⟩
      have hml : m < l.length := by omega
      obtain ⟨g', o', hA3, hg2, us2, hus2, hc2', hls2⟩ := (Hk.out.below hbel).get hml
      injection hA3 with hA3
      injection hA3 with e1 e2
      subst e1 e2
      obtain ⟨rfl, _⟩ := Taint.opened hls2
      have HC := Lib.hid (fun p : BelowBy X => gr_below (impl_cmpT l[m] l[j] p.v))
      have R0 : ∀ p : BelowBy X, p.v.cell? ⟨g, o + m * 3, none⟩ = some (.string l[m].key) := fun p => (World.cell?_of_block ((hbX.trans (p.h.mono hbX.size)).block g hg)).trans (hc2' 0 _ rfl)
      have R1 : ∀ p : BelowBy X, p.v.cell? ⟨g, o + m * 3 + 1, none⟩ = some (.string l[m].value) := fun p => (World.cell?_of_block ((hbX.trans (p.h.mono hbX.size)).block g hg)).trans (hc2' 1 _ rfl)
      have R2 : ∀ p : BelowBy X, p.v.cell? ⟨g, o + m * 3 + 2, none⟩ = some (.int .i64 l[m].effect) := fun p => (World.cell?_of_block ((hbX.trans (p.h.mono hbX.size)).block g hg)).trans (hc2' 2 _ rfl)
      have hmi : (j : Int) - 1 = (m : Int) := by omega
      have hwm : IntKind.i64.wrap (m : Int) = (m : Int) := IntWalk.i64_in _ (by omega)
      have hm0 : (0 : Int) ≤ (m : Int) := by omega
      have hm1 : (m : Int) < (l.length : Int) := by omega
      have hjp : (0 : Int) < (j : Int) := by omega
      have hjp1 : 0 < j := by omega
      have hb := CmpWay.less wayT ordT l[m] l[j]
      by_cases hr : cmpT l[m] l[j] < 0
      · rw [decide_eq_true hr] at hb
        have Hg := Lib.hid (goodL_next hgood.out hlt hP (fun m' hm' => by obtain rfl : m' = m := by omega
                                                                          exact hb.symm))
        have hr0 : ¬ (0 : Int) ≤ cmpT l[m] l[j] := by omega
        clear hP Hno Hyes hgood hls hus hc hg hwf hls2 hus2 hc2' hg2 Hk hz hm hb hbel hbX hX HB
        generalize cmpT l[m] l[j] = r at HC hr0 hr
        generalize l[j] = x at *
        generalize l[m] = y at *
        go_wp2_with fail
        rw [← HX.out]
        refine wp_region_quiet_below (by kernel_rfl) (by kernel_rfl) ?_
        repeat (refine @wpQuiet_step _ _ _ _ _ _ _ ?_; intro K hK; go_simp; first | (refine hK _ ?_; clear hK K) | (apply Exists.intro; refine ⟨fun _ => ?_, hK _ ?_⟩; (first | (go_at_call 69; exact Calls.below_of (HN.out _)) | (go_at_call 70; exact Calls.below_of (HC.out _))); clear hK K))
        refine wpQuiet_nil ?_
        intro _ hw'
        obtain ⟨p, rfl⟩ := hw'
        go_wp2_with fail
        go_roundw
        case rel => exact ⟨j + 1, by omega, by go_num, Hg.out, HW2.out p⟩
        case measure => simp [intOf]; omega
      · rw [decide_eq_false hr] at hb
        have Hf := Lib.hid (Hno.out fun h2 => by
          have := (h2 j hlt hlt).2 m hm
          rw [← hb] at this; cases this)
        have hr0 : (0 : Int) ≤ cmpT l[m] l[j] := by omega
        clear hP Hno Hyes hgood hls hus hc hg hwf hls2 hus2 hc2' hg2 Hk hz hm hb hbel hbX hX HB
        generalize cmpT l[m] l[j] = r at HC hr0 hr
        generalize l[j] = x at *
        generalize l[m] = y at *
        go_wp2_with fail
        rw [← HX.out]
        refine wp_region_quiet_below (by kernel_rfl) (by kernel_rfl) ?_
        repeat (refine @wpQuiet_step _ _ _ _ _ _ _ ?_; intro K hK; go_simp; first | (refine hK _ ?_; clear hK K) | (apply Exists.intro; refine ⟨fun _ => ?_, hK _ ?_⟩; (first | (go_at_call 69; exact Calls.below_of (HN.out _)) | (go_at_call 70; exact Calls.below_of (HC.out _))); clear hK K))
        refine wpQuiet_nil ?_
        intro _ hw'
        obtain ⟨p, rfl⟩ := hw'
        go_wp2_with fail
        go_ret
        exact ⟨by rw [Hf.out]; rfl, HW2.out p⟩
    · obtain rfl : j = l.length := by omega
      have Hf := Lib.hid (Hyes.out hgood.out)
      clear hgood hbel
      go_wp2_with fail
      go_ret
      exact ⟨by rw [Hf.out]; rfl, Hbel.out⟩
end Go.Proofs.YtcfbkfmkjggcdaaDoor.taint
namespace Go.Proofs.YtcfbkfmkjggcdaaDoor.taint
open Go.ChangeShapes Go.WideShapes Go.ChangeAt Go.RowKit ty lab dedup need
set_option linter.unusedVariables false

set_option maxRecDepth 100000 in
set_option maxHeartbeats 4000000 in
theorem impl_oksTaint (l : List Taint) (f : Nat) (v : Value) (w : World) (h : Lies w f v (.sl 3 l.length (l.flatMap Taint.row))) :
    Calls Tryd.prog 36 #[v] w fun e w' => e = .returned (.bool (yes (TaintsP l))) ∧ Below w.heap.size w w' := by
  have HA := Lib.hid (impl_ascTaint l f v w h)
  obtain ⟨A, c, rfl, hc1, hc2, _⟩ := els_of Taint.row_length h
  unfold maxLen at hc2
  by_cases h4 : 4 < l.length
  · have Hf := Lib.hid (yes_f (p := TaintsP l) (fun h => by have := h.1; omega))
    clear h HA
    go_enter Tryd.func36, Tryd.ntmps36
    go_wp2_with fail
    go_ret
    exact ⟨by rw [Hf.out]; rfl, Below.refl _ _⟩
  have He : Hid (yes (TaintsP l) = yes (GoodL TaintP lessT l l.length)) := by
    unfold Hid
    congr 1
    exact propext ⟨fun h => h.2, fun h => ⟨by omega, h⟩⟩
  rw [He.out]
  clear He h
  generalize yes (GoodL TaintP lessT l l.length) = R at HA ⊢
  go_enter Tryd.func36, Tryd.ntmps36
  go_wp2_with fail
  refine HA.out.mono ?_
  rintro e w1 ⟨rfl, hb⟩
  go_wp2_with fail
  go_ret
  exact ⟨rfl, hb⟩
end Go.Proofs.YtcfbkfmkjggcdaaDoor.taint
namespace Go.Proofs.YtcfbkfmkjggcdaaDoor.pod
open Go.ChangeShapes Go.WideShapes Go.ChangeAt Go.RowKit ty lab need taint
set_option linter.unusedVariables false
set_option maxRecDepth 100000 in
set_option maxHeartbeats 32000000 in
theorem impl_host (x : Host) (f : Nat) (us : List Value) (w : World) (h : LiesS w f us x.row) (hz : x.wt ≤ 1048576) :
    Calls Tryd.prog 13 #[.agg us.toArray] w fun e w' => e = .returned (.bool (yes (HostP x))) ∧ Below w.heap.size w w' := by
  obtain ⟨R, hR⟩ : ∃ R, yes (HostP x) = R := ⟨_, rfl⟩
  rw [hR]
  have Hno : Hid (¬ HostP x → R = false) := fun h => by rw [← hR]; exact yes_f h
  have Hyes : Hid (HostP x → R = true) := fun h => by rw [← hR]; exact yes_t h
  clear hR
  obtain ⟨a0, a1, a2, a3, a4, a5⟩ := x
  obtain ⟨A1, c1, A5, c5, rfl, hwf, k1, m1, l1, k5, m5, l5⟩ := Host.opened h
  unfold Host.wt at hz
  simp only at hz hwf k1 m1 l1 k5 m5 l5
  obtain ⟨w1, hw1⟩ : ∃ w1, w1 = w.alloc (.cells #[.string a0, .slice A1 a1.length c1, .int .i64 a2, .int .i64 a3, .int .i64 a4, .slice A5 a5.length c5] 44) := ⟨_, rfl⟩
  have hb1 : Below w.heap.size w w1 := by rw [hw1]; exact (Below.refl _ _).alloc (Nat.le_refl _) _
  have R1 := Lib.hid (show RowE 44 w1 w.heap.size [.string a0, .slice A1 a1.length c1, .int .i64 a2, .int .i64 a3, .int .i64 a4, .slice A5 a5.length c5] by rw [hw1]; exact RowE.new _ _ _)
  have Hw1 := Lib.hid hw1
  have C0 := Lib.hid (fun w' (hb : Below w.heap.size w w') => impl_name a0 w' (by omega))
  have C1 := Lib.hid (fun w' (hb : Below w.heap.size w w') => impl_labels a1 f _ w' (l1.below hb) (small_of (by omega)))
  have C2 := Lib.hid (fun w' (hb : Below w.heap.size w w') => impl_oksTaint a5 f _ w' (l5.below hb))
  have HB1 := Lib.hid hb1
  clear h hz hwf hb1 hw1 k1 m1 l1 k5 m5 l5
  by_cases h0 : NameP a0
  case neg =>
    have Hf := Lib.hid (Hno.out fun h => h0 h.name)
    clear Hno Hyes
    rw [yes_f h0] at C0
    clear h0
    go_enter Tryd.func13, Tryd.ntmps13
    go_wp2_with fail
    rw [← Hw1.out]
    refine (C0.out _ HB1.out).mono ?_
    rintro e y0 ⟨rfl, b0⟩
    have HB10 := Lib.hid (below_link HB1.out b0 HB1.out.size)
    have R10 := Lib.hid (R1.out.below b0)
    clear b0
    have p0_0 := R10.out.cell 0 _ rfl
    have p1_0 := R10.out.cell 1 _ rfl
    have p2_0 := R10.out.cell 2 _ rfl
    have p3_0 := R10.out.cell 3 _ rfl
    have p4_0 := R10.out.cell 4 _ rfl
    have p5_0 := R10.out.cell 5 _ rfl
    go_wp2_with fail
    go_ret
    exact ⟨by rw [Hf.out]; rfl, HB10.out⟩
  rw [yes_t h0] at C0
  by_cases h1 : LabelsP a1
  case neg =>
    have Hf := Lib.hid (Hno.out fun h => h1 h.labels)
    clear Hno Hyes
    rw [yes_f h1] at C1
    clear h0 h1
    go_enter Tryd.func13, Tryd.ntmps13
    go_wp2_with fail
    rw [← Hw1.out]
    refine (C0.out _ HB1.out).mono ?_
    rintro e y0 ⟨rfl, b0⟩
    have HB10 := Lib.hid (below_link HB1.out b0 HB1.out.size)
    have R10 := Lib.hid (R1.out.below b0)
    clear b0
    have p0_0 := R10.out.cell 0 _ rfl
    have p1_0 := R10.out.cell 1 _ rfl
    have p2_0 := R10.out.cell 2 _ rfl
    have p3_0 := R10.out.cell 3 _ rfl
    have p4_0 := R10.out.cell 4 _ rfl
    have p5_0 := R10.out.cell 5 _ rfl
    go_wp2_with fail
    refine (C1.out _ HB10.out).mono ?_
    rintro e y1 ⟨rfl, b1⟩
    have HB11 := Lib.hid (below_link HB10.out b1 HB10.out.size)
    have R11 := Lib.hid (R10.out.below b1)
    clear p0_0 p1_0 p2_0 p3_0 p4_0 p5_0
    clear b1
    have p0_1 := R11.out.cell 0 _ rfl
    have p1_1 := R11.out.cell 1 _ rfl
    have p2_1 := R11.out.cell 2 _ rfl
    have p3_1 := R11.out.cell 3 _ rfl
    have p4_1 := R11.out.cell 4 _ rfl
    have p5_1 := R11.out.cell 5 _ rfl
    go_wp2_with fail
    go_ret
    exact ⟨by rw [Hf.out]; rfl, HB11.out⟩
  rw [yes_t h1] at C1
  by_cases h2 : TaintsP a5
  case neg =>
    have Hf := Lib.hid (Hno.out fun h => h2 h.taints)
    clear Hno Hyes
    rw [yes_f h2] at C2
    clear h0 h1 h2
    go_enter Tryd.func13, Tryd.ntmps13
    go_wp2_with fail
    rw [← Hw1.out]
    refine (C0.out _ HB1.out).mono ?_
    rintro e y0 ⟨rfl, b0⟩
    have HB10 := Lib.hid (below_link HB1.out b0 HB1.out.size)
    have R10 := Lib.hid (R1.out.below b0)
    clear b0
    have p0_0 := R10.out.cell 0 _ rfl
    have p1_0 := R10.out.cell 1 _ rfl
    have p2_0 := R10.out.cell 2 _ rfl
    have p3_0 := R10.out.cell 3 _ rfl
    have p4_0 := R10.out.cell 4 _ rfl
    have p5_0 := R10.out.cell 5 _ rfl
    go_wp2_with fail
    refine (C1.out _ HB10.out).mono ?_
    rintro e y1 ⟨rfl, b1⟩
    have HB11 := Lib.hid (below_link HB10.out b1 HB10.out.size)
    have R11 := Lib.hid (R10.out.below b1)
    clear p0_0 p1_0 p2_0 p3_0 p4_0 p5_0
    clear b1
    have p0_1 := R11.out.cell 0 _ rfl
    have p1_1 := R11.out.cell 1 _ rfl
    have p2_1 := R11.out.cell 2 _ rfl
    have p3_1 := R11.out.cell 3 _ rfl
    have p4_1 := R11.out.cell 4 _ rfl
    have p5_1 := R11.out.cell 5 _ rfl
    go_wp2_with fail
    refine (C2.out _ HB11.out).mono ?_
    rintro e y2 ⟨rfl, b2⟩
    have HB12 := Lib.hid (below_link HB11.out b2 HB11.out.size)
    have R12 := Lib.hid (R11.out.below b2)
    clear p0_1 p1_1 p2_1 p3_1 p4_1 p5_1
    clear b2
    have p0_2 := R12.out.cell 0 _ rfl
    have p1_2 := R12.out.cell 1 _ rfl
    have p2_2 := R12.out.cell 2 _ rfl
    have p3_2 := R12.out.cell 3 _ rfl
    have p4_2 := R12.out.cell 4 _ rfl
    have p5_2 := R12.out.cell 5 _ rfl
    go_wp2_with fail
    go_ret
    exact ⟨by rw [Hf.out]; rfl, HB12.out⟩
  rw [yes_t h2] at C2
  by_cases h3 : 0 ≤ a2
  case neg =>
    have Hf := Lib.hid (Hno.out fun h => h3 h.cpu)
    clear Hno Hyes
    have g3 := decide_eq_false h3
    clear h0 h1 h2
    go_enter Tryd.func13, Tryd.ntmps13
    go_wp2_with fail
    rw [← Hw1.out]
    refine (C0.out _ HB1.out).mono ?_
    rintro e y0 ⟨rfl, b0⟩
    have HB10 := Lib.hid (below_link HB1.out b0 HB1.out.size)
    have R10 := Lib.hid (R1.out.below b0)
    clear b0
    have p0_0 := R10.out.cell 0 _ rfl
    have p1_0 := R10.out.cell 1 _ rfl
    have p2_0 := R10.out.cell 2 _ rfl
    have p3_0 := R10.out.cell 3 _ rfl
    have p4_0 := R10.out.cell 4 _ rfl
    have p5_0 := R10.out.cell 5 _ rfl
    go_wp2_with fail
    refine (C1.out _ HB10.out).mono ?_
    rintro e y1 ⟨rfl, b1⟩
    have HB11 := Lib.hid (below_link HB10.out b1 HB10.out.size)
    have R11 := Lib.hid (R10.out.below b1)
    clear p0_0 p1_0 p2_0 p3_0 p4_0 p5_0
    clear b1
    have p0_1 := R11.out.cell 0 _ rfl
    have p1_1 := R11.out.cell 1 _ rfl
    have p2_1 := R11.out.cell 2 _ rfl
    have p3_1 := R11.out.cell 3 _ rfl
    have p4_1 := R11.out.cell 4 _ rfl
    have p5_1 := R11.out.cell 5 _ rfl
    go_wp2_with fail
    refine (C2.out _ HB11.out).mono ?_
    rintro e y2 ⟨rfl, b2⟩
    have HB12 := Lib.hid (below_link HB11.out b2 HB11.out.size)
    have R12 := Lib.hid (R11.out.below b2)
    clear p0_1 p1_1 p2_1 p3_1 p4_1 p5_1
    clear b2
    have p0_2 := R12.out.cell 0 _ rfl
    have p1_2 := R12.out.cell 1 _ rfl
    have p2_2 := R12.out.cell 2 _ rfl
    have p3_2 := R12.out.cell 3 _ rfl
    have p4_2 := R12.out.cell 4 _ rfl
    have p5_2 := R12.out.cell 5 _ rfl
    go_wp2_with fail
    go_ret
    exact ⟨by rw [Hf.out]; rfl, HB12.out⟩
  have g3 := decide_eq_true h3
  by_cases h4 : 0 ≤ a3
  case neg =>
    have Hf := Lib.hid (Hno.out fun h => h4 h.mem)
    clear Hno Hyes
    have g4 := decide_eq_false h4
    clear h0 h1 h2
    go_enter Tryd.func13, Tryd.ntmps13
    go_wp2_with fail
    rw [← Hw1.out]
    refine (C0.out _ HB1.out).mono ?_
    rintro e y0 ⟨rfl, b0⟩
    have HB10 := Lib.hid (below_link HB1.out b0 HB1.out.size)
    have R10 := Lib.hid (R1.out.below b0)
    clear b0
    have p0_0 := R10.out.cell 0 _ rfl
    have p1_0 := R10.out.cell 1 _ rfl
    have p2_0 := R10.out.cell 2 _ rfl
    have p3_0 := R10.out.cell 3 _ rfl
    have p4_0 := R10.out.cell 4 _ rfl
    have p5_0 := R10.out.cell 5 _ rfl
    go_wp2_with fail
    refine (C1.out _ HB10.out).mono ?_
    rintro e y1 ⟨rfl, b1⟩
    have HB11 := Lib.hid (below_link HB10.out b1 HB10.out.size)
    have R11 := Lib.hid (R10.out.below b1)
    clear p0_0 p1_0 p2_0 p3_0 p4_0 p5_0
    clear b1
    have p0_1 := R11.out.cell 0 _ rfl
    have p1_1 := R11.out.cell 1 _ rfl
    have p2_1 := R11.out.cell 2 _ rfl
    have p3_1 := R11.out.cell 3 _ rfl
    have p4_1 := R11.out.cell 4 _ rfl
    have p5_1 := R11.out.cell 5 _ rfl
    go_wp2_with fail
    refine (C2.out _ HB11.out).mono ?_
    rintro e y2 ⟨rfl, b2⟩
    have HB12 := Lib.hid (below_link HB11.out b2 HB11.out.size)
    have R12 := Lib.hid (R11.out.below b2)
    clear p0_1 p1_1 p2_1 p3_1 p4_1 p5_1
    clear b2
    have p0_2 := R12.out.cell 0 _ rfl
    have p1_2 := R12.out.cell 1 _ rfl
    have p2_2 := R12.out.cell 2 _ rfl
    have p3_2 := R12.out.cell 3 _ rfl
    have p4_2 := R12.out.cell 4 _ rfl
    have p5_2 := R12.out.cell 5 _ rfl
    go_wp2_with fail
    go_ret
    exact ⟨by rw [Hf.out]; rfl, HB12.out⟩
  have g4 := decide_eq_true h4
  by_cases h5 : 1 ≤ a4
  case neg =>
    have Hf := Lib.hid (Hno.out fun h => h5 h.lo)
    clear Hno Hyes
    have g5 := decide_eq_false h5
    clear h0 h1 h2
    go_enter Tryd.func13, Tryd.ntmps13
    go_wp2_with fail
    rw [← Hw1.out]
    refine (C0.out _ HB1.out).mono ?_
    rintro e y0 ⟨rfl, b0⟩
    have HB10 := Lib.hid (below_link HB1.out b0 HB1.out.size)
    have R10 := Lib.hid (R1.out.below b0)
    clear b0
    have p0_0 := R10.out.cell 0 _ rfl
    have p1_0 := R10.out.cell 1 _ rfl
    have p2_0 := R10.out.cell 2 _ rfl
    have p3_0 := R10.out.cell 3 _ rfl
    have p4_0 := R10.out.cell 4 _ rfl
    have p5_0 := R10.out.cell 5 _ rfl
    go_wp2_with fail
    refine (C1.out _ HB10.out).mono ?_
    rintro e y1 ⟨rfl, b1⟩
    have HB11 := Lib.hid (below_link HB10.out b1 HB10.out.size)
    have R11 := Lib.hid (R10.out.below b1)
    clear p0_0 p1_0 p2_0 p3_0 p4_0 p5_0
    clear b1
    have p0_1 := R11.out.cell 0 _ rfl
    have p1_1 := R11.out.cell 1 _ rfl
    have p2_1 := R11.out.cell 2 _ rfl
    have p3_1 := R11.out.cell 3 _ rfl
    have p4_1 := R11.out.cell 4 _ rfl
    have p5_1 := R11.out.cell 5 _ rfl
    go_wp2_with fail
    refine (C2.out _ HB11.out).mono ?_
    rintro e y2 ⟨rfl, b2⟩
    have HB12 := Lib.hid (below_link HB11.out b2 HB11.out.size)
    have R12 := Lib.hid (R11.out.below b2)
    clear p0_1 p1_1 p2_1 p3_1 p4_1 p5_1
    clear b2
    have p0_2 := R12.out.cell 0 _ rfl
    have p1_2 := R12.out.cell 1 _ rfl
    have p2_2 := R12.out.cell 2 _ rfl
    have p3_2 := R12.out.cell 3 _ rfl
    have p4_2 := R12.out.cell 4 _ rfl
    have p5_2 := R12.out.cell 5 _ rfl
    go_wp2_with fail
    go_ret
    exact ⟨by rw [Hf.out]; rfl, HB12.out⟩
  have g5 := decide_eq_true h5
  by_cases h6 : a4 ≤ 20
  case neg =>
    have Hf := Lib.hid (Hno.out fun h => h6 h.hi)
    clear Hno Hyes
    have g6 := decide_eq_false h6
    clear h0 h1 h2
    go_enter Tryd.func13, Tryd.ntmps13
    go_wp2_with fail
    rw [← Hw1.out]
    refine (C0.out _ HB1.out).mono ?_
    rintro e y0 ⟨rfl, b0⟩
    have HB10 := Lib.hid (below_link HB1.out b0 HB1.out.size)
    have R10 := Lib.hid (R1.out.below b0)
    clear b0
    have p0_0 := R10.out.cell 0 _ rfl
    have p1_0 := R10.out.cell 1 _ rfl
    have p2_0 := R10.out.cell 2 _ rfl
    have p3_0 := R10.out.cell 3 _ rfl
    have p4_0 := R10.out.cell 4 _ rfl
    have p5_0 := R10.out.cell 5 _ rfl
    go_wp2_with fail
    refine (C1.out _ HB10.out).mono ?_
    rintro e y1 ⟨rfl, b1⟩
    have HB11 := Lib.hid (below_link HB10.out b1 HB10.out.size)
    have R11 := Lib.hid (R10.out.below b1)
    clear p0_0 p1_0 p2_0 p3_0 p4_0 p5_0
    clear b1
    have p0_1 := R11.out.cell 0 _ rfl
    have p1_1 := R11.out.cell 1 _ rfl
    have p2_1 := R11.out.cell 2 _ rfl
    have p3_1 := R11.out.cell 3 _ rfl
    have p4_1 := R11.out.cell 4 _ rfl
    have p5_1 := R11.out.cell 5 _ rfl
    go_wp2_with fail
    refine (C2.out _ HB11.out).mono ?_
    rintro e y2 ⟨rfl, b2⟩
    have HB12 := Lib.hid (below_link HB11.out b2 HB11.out.size)
    have R12 := Lib.hid (R11.out.below b2)
    clear p0_1 p1_1 p2_1 p3_1 p4_1 p5_1
    clear b2
    have p0_2 := R12.out.cell 0 _ rfl
    have p1_2 := R12.out.cell 1 _ rfl
    have p2_2 := R12.out.cell 2 _ rfl
    have p3_2 := R12.out.cell 3 _ rfl
    have p4_2 := R12.out.cell 4 _ rfl
    have p5_2 := R12.out.cell 5 _ rfl
    go_wp2_with fail
    go_ret
    exact ⟨by rw [Hf.out]; rfl, HB12.out⟩
  have g6 := decide_eq_true h6
  have Hf := Lib.hid (Hyes.out ⟨h0, h1, h3, h4, h5, h6, h2⟩)
  clear Hno Hyes h0 h1 h2
  go_enter Tryd.func13, Tryd.ntmps13
  go_wp2_with fail
  rw [← Hw1.out]
  refine (C0.out _ HB1.out).mono ?_
  rintro e y0 ⟨rfl, b0⟩
  have HB10 := Lib.hid (below_link HB1.out b0 HB1.out.size)
  have R10 := Lib.hid (R1.out.below b0)
  clear b0
  have p0_0 := R10.out.cell 0 _ rfl
  have p1_0 := R10.out.cell 1 _ rfl
  have p2_0 := R10.out.cell 2 _ rfl
  have p3_0 := R10.out.cell 3 _ rfl
  have p4_0 := R10.out.cell 4 _ rfl
  have p5_0 := R10.out.cell 5 _ rfl
  go_wp2_with fail
  refine (C1.out _ HB10.out).mono ?_
  rintro e y1 ⟨rfl, b1⟩
  have HB11 := Lib.hid (below_link HB10.out b1 HB10.out.size)
  have R11 := Lib.hid (R10.out.below b1)
  clear p0_0 p1_0 p2_0 p3_0 p4_0 p5_0
  clear b1
  have p0_1 := R11.out.cell 0 _ rfl
  have p1_1 := R11.out.cell 1 _ rfl
  have p2_1 := R11.out.cell 2 _ rfl
  have p3_1 := R11.out.cell 3 _ rfl
  have p4_1 := R11.out.cell 4 _ rfl
  have p5_1 := R11.out.cell 5 _ rfl
  go_wp2_with fail
  refine (C2.out _ HB11.out).mono ?_
  rintro e y2 ⟨rfl, b2⟩
  have HB12 := Lib.hid (below_link HB11.out b2 HB11.out.size)
  have R12 := Lib.hid (R11.out.below b2)
  clear p0_1 p1_1 p2_1 p3_1 p4_1 p5_1
  clear b2
  have p0_2 := R12.out.cell 0 _ rfl
  have p1_2 := R12.out.cell 1 _ rfl
  have p2_2 := R12.out.cell 2 _ rfl
  have p3_2 := R12.out.cell 3 _ rfl
  have p4_2 := R12.out.cell 4 _ rfl
  have p5_2 := R12.out.cell 5 _ rfl
  go_wp2_with fail
  go_ret
  exact ⟨by rw [Hf.out]; rfl, HB12.out⟩
end Go.Proofs.YtcfbkfmkjggcdaaDoor.pod
namespace Go.Proofs.YtcfbkfmkjggcdaaDoor.ty
open Go.ChangeShapes Go.WideShapes Go.ChangeAt Go.RowKit
set_option linter.unusedVariables false

instance : Inhabited Taint := ⟨⟨⟨#[]⟩, ⟨#[]⟩, 0⟩⟩
theorem csTaint : Tryd.prog.cellsOf 98 = 3 := by kernel_rfl
theorem csTaint_string : Tryd.prog.cellsOf 9 = 1 := by kernel_rfl
theorem csTaint_int : Tryd.prog.cellsOf 3 = 1 := by kernel_rfl
section
variable {H : Type} {enc : TypeId × Value → H} {w : World} {base : Nat} {sp : Nat → Bool} {held : Bool}
set_option maxRecDepth 100000 in
theorem trodTaint (fuel : Nat) (cs : List Value) (x : DataW H × List MemPlace) (h : DataW.trod enc Tryd.prog w base sp held fuel 98 cs = some x) : ∃ t : Taint, LiesS w fuel cs t.row := by
  obtain ⟨xs, n, rfl, _, hl, hxl, hf⟩ := DataW.trod_struct Tryd.underlying98 h
  rw [csTaint] at hl
  have hxlk : xs.length = 3 := hxl
  obtain ⟨u0, u1, u2, rfl⟩ := of_Taint hl
  obtain ⟨y0, y1, y2, rfl⟩ := of_Taint hxlk
  have f0 := hf 0 _ rfl
  have f1 := hf 1 _ rfl
  have f2 := hf 2 _ rfl
  simp only [csTaint_string, csTaint_int, List.drop_zero, List.drop_succ_cons, List.take_succ_cons, List.take_zero, List.getElem?_cons_zero, List.getElem?_cons_succ] at f0 f1 f2
  obtain ⟨z0, e0, _, w0⟩ := DataW.trod_string Tryd.underlying9 f0
  obtain ⟨z1, e1, _, w1⟩ := DataW.trod_string Tryd.underlying9 f1
  obtain ⟨z2, e2, _, w2⟩ := DataW.trod_int Tryd.underlying3 f2
  injection e0 with e0
  injection e1 with e1
  injection e2 with e2
  subst e0 e1 e2
  refine ⟨⟨z0, z1, z2⟩, ?_⟩
  cases n with
  | zero => simp [DataW.trod] at f0
  | succ n => exact (Taint.lies (f := n) (x := ⟨z0, z1, z2⟩) ⟨w0, w1, w2⟩).deeper (by omega)
set_option maxRecDepth 100000 in
theorem open_TaintS {r : Reach} {b0 : Nat} {v : Value} {d : DataW H} {ps : List MemPlace}
    (hval : Value.okWide Tryd.prog w r b0 37 v) (hd : DataW.Trod enc Tryd.prog w base sp held 37 v d ps) : ∃ (l : List Taint) (f : Nat), Lies w f v (.sl 3 l.length (l.flatMap Taint.row)) := by
  obtain ⟨A, n, c, rfl⟩ := okWide_slice Tryd.underlying37 hval
  obtain ⟨fuel, hf⟩ := hd
  obtain ⟨v', l, h1, h2⟩ := lies_slice (α := Taint) Taint.row Tryd.underlying37 csTaint (by decide) Taint.row_length (fun n cs' y _ hy => trodTaint n cs' y hy) hf
  have e : v' = .slice A n c := by simpa [Value.cells] using h1.symm
  subst e
  exact ⟨l, fuel, h2⟩
end
end Go.Proofs.YtcfbkfmkjggcdaaDoor.ty
namespace Go.Proofs.YtcfbkfmkjggcdaaDoor.ty
open Go.ChangeShapes Go.WideShapes Go.ChangeAt Go.RowKit
set_option linter.unusedVariables false

instance : Inhabited Host := ⟨⟨⟨#[]⟩, [], 0, 0, 0, []⟩⟩
theorem csHost : Tryd.prog.cellsOf 39 = 6 := by kernel_rfl
theorem csHost_string : Tryd.prog.cellsOf 9 = 1 := by kernel_rfl
theorem csHost_sl_Label : Tryd.prog.cellsOf 22 = 1 := by kernel_rfl
theorem csHost_int : Tryd.prog.cellsOf 3 = 1 := by kernel_rfl
theorem csHost_sl_Taint : Tryd.prog.cellsOf 37 = 1 := by kernel_rfl
section
variable {H : Type} {enc : TypeId × Value → H} {w : World} {base : Nat} {sp : Nat → Bool} {held : Bool}
set_option maxRecDepth 100000 in
theorem trodHost (fuel : Nat) (cs : List Value) (x : DataW H × List MemPlace) (h : DataW.trod enc Tryd.prog w base sp held fuel 39 cs = some x) : ∃ t : Host, LiesS w fuel cs t.row := by
  obtain ⟨xs, n, hfn, _, hl, hxl, hf⟩ := DataW.trod_struct Tryd.underlying39 h
  rw [csHost] at hl
  have hxlk : xs.length = 6 := hxl
  obtain ⟨u0, u1, u2, u3, u4, u5, rfl⟩ := of_Host hl
  obtain ⟨y0, y1, y2, y3, y4, y5, rfl⟩ := of_Host hxlk
  have f0 := hf 0 _ rfl
  have f1 := hf 1 _ rfl
  have f2 := hf 2 _ rfl
  have f3 := hf 3 _ rfl
  have f4 := hf 4 _ rfl
  have f5 := hf 5 _ rfl
  simp only [csHost_string, csHost_sl_Label, csHost_int, csHost_sl_Taint, List.drop_zero, List.drop_succ_cons, List.take_succ_cons, List.take_zero, List.getElem?_cons_zero, List.getElem?_cons_succ] at f0 f1 f2 f3 f4 f5
  obtain ⟨z0, e0, _, w0⟩ := DataW.trod_string Tryd.underlying9 f0
  obtain ⟨v1, z1, e1, l1⟩ := lies_slice (α := Label) Label.row Tryd.underlying22 csLabel (by decide) Label.row_length (fun n cs' y _ hy => trodLabel n cs' y hy) f1
  obtain ⟨z2, e2, _, w2⟩ := DataW.trod_int Tryd.underlying3 f2
  obtain ⟨z3, e3, _, w3⟩ := DataW.trod_int Tryd.underlying3 f3
  obtain ⟨z4, e4, _, w4⟩ := DataW.trod_int Tryd.underlying3 f4
  obtain ⟨v5, z5, e5, l5⟩ := lies_slice (α := Taint) Taint.row Tryd.underlying37 csTaint (by decide) Taint.row_length (fun n cs' y _ hy => trodTaint n cs' y hy) f5
  injection e0 with e0
  injection e1 with e1
  injection e2 with e2
  injection e3 with e3
  injection e4 with e4
  injection e5 with e5
  subst e0 e1 e2 e3 e4 e5
  refine ⟨⟨z0, z1, z2, z3, z4, z5⟩, ?_⟩
  subst hfn
  cases n with
  | zero => simp [DataW.trod] at f0
  | succ n =>
    have m0 : Lies w (n + 1) (.string z0) (.str z0) := ⟨rfl, w0⟩
    have m1 := l1
    have m2 : Lies w (n + 1) (.int .i64 z2) (.int .i64 z2) := ⟨rfl, w2⟩
    have m3 : Lies w (n + 1) (.int .i64 z3) (.int .i64 z3) := ⟨rfl, w3⟩
    have m4 : Lies w (n + 1) (.int .i64 z4) (.int .i64 z4) := ⟨rfl, w4⟩
    have m5 := l5
    exact ((LiesS.cons m0 (LiesS.cons m1 (LiesS.cons m2 (LiesS.cons m3 (LiesS.cons m4 (LiesS.cons m5 LiesS.nil))))))).deeper (Nat.le_succ _)
end
end Go.Proofs.YtcfbkfmkjggcdaaDoor.ty
namespace Go.Proofs.YtcfbkfmkjggcdaaDoor.ty
open Go.ChangeShapes Go.WideShapes Go.ChangeAt Go.RowKit
set_option linter.unusedVariables false

section
variable {H : Type} {enc : TypeId × Value → H} {w : World} {base : Nat} {sp : Nat → Bool} {held : Bool}
set_option maxRecDepth 100000 in
theorem open_Host {r : Reach} {b0 : Nat} {v : Value} {d : DataW H} {ps : List MemPlace}
    (hval : Value.okWide Tryd.prog w r b0 39 v) (hd : DataW.Trod enc Tryd.prog w base sp held 39 v d ps) : ∃ (t : Host) (f : Nat) (vs : List Value), v = .agg vs.toArray ∧ LiesS w f vs t.row := by
  obtain ⟨cs, rfl, hsz⟩ := okWide_struct Tryd.underlying39 hval
  obtain ⟨fuel, hf⟩ := hd
  obtain ⟨l⟩ := cs
  obtain ⟨t, ht⟩ := trodHost fuel _ _ hf
  exact ⟨t, fuel, l, rfl, by simpa [Value.cells] using ht⟩
end
end Go.Proofs.YtcfbkfmkjggcdaaDoor.ty
