/- Merged: FlTaint OksTaintS HostS ToTaint ToTaintS. -/
import Derived.Test.YtcfbkfmkjggcdaaGreatDoorGA6
import Derived.Test.YtcfbkfmkjggcdaaGreatDoorGA4
import Derived.Test.YtcfbkfmkjggcdaaGreatDoorGA1
import Derived.Laws.Cover1
import Derived.Test.YtcfbkfmkjggcdaaGreatDoorGA5
import Derived.Test.YtcfbkfmkjggcdaaGreatDoorRows
import Derived.ProofKit
import Derived.OpenShut
import Derived.Deep.WholeRow
import Derived.OwnWalk
namespace Go.Proofs.YtcfbkfmkjggcdaaGreatDoor.ty
open Go Go.RowKit
set_option linter.unusedVariables false

def Taint.cells (x : Taint) : List Value := [.string x.key, .string x.value, .int .i64 x.effect]
theorem Taint.cells_len (x : Taint) : x.cells.length = 3 := rfl
theorem Taint.cells_one (x : Taint) : ∀ u ∈ x.cells, u.oneCell' = true := by intro u hu; simp [Taint.cells] at hu; rcases hu with rfl | rfl | rfl <;> rfl
theorem Taint.cells_all (x : Taint) : (#[.string x.key, .string x.value, .int .i64 x.effect] : Array Value).all (·.oneCell') = true := by simp [Value.oneCell']
theorem rdk_Taint {w : World} {f : Nat} {A : Option Addr} {l : List Taint} (h : ElsAt Taint.row w f A l 3) : RdK w A l.length 3 (l.flatMap Taint.cells) ∧ ∀ x ∈ l, x.Wf := flt.rdk_of_els Taint.cells_len (by decide) (fun _ _ _ _ h => Taint.opened h) h
theorem own_Taint {w : World} {B : Nat} {e : TypeId} {v : Value} {l : List Taint} (h : w.ownsRow B e 3 v l.length (l.flatMap Taint.cells)) (hw : ∀ x ∈ l, x.Wf) : ∃ F, Own w B 2 v (.sl 3 l.length (l.flatMap Taint.row)) F ∧ F.Nodup ∧ ∀ x ∈ F, B ≤ x ∧ x < w.heap.size := flt.own_vals Taint.row_length (fun _ h => Taint.owned h) h hw
instance inhFlTaint : Inhabited Taint := ⟨⟨⟨#[]⟩, ⟨#[]⟩, 0⟩⟩
end Go.Proofs.YtcfbkfmkjggcdaaGreatDoor.ty
namespace Go.Proofs.YtcfbkfmkjggcdaaGreatDoor.taint
open Go.ChangeShapes Go.WideShapes Go.ChangeAt Go.RowKit ty lab dedup need
set_option linter.unusedVariables false

set_option maxRecDepth 100000 in
set_option maxHeartbeats 16000000 in
theorem spec_oksTaint (l : List Taint) (f : Nat) (v : Value) (w : World) (h : Lies w f v (.sl 3 l.length (l.flatMap Taint.row))) (hz : wsum Taint.wt l ≤ 1048576) :
    Calls Tryz.prog 59 #[v] w fun e w' => e = .returned (.bool (yes (TaintsP l))) ∧ Below w.heap.size w w' := by
  obtain ⟨A, c, rfl, hc1, hc2, f', rfl, hk⟩ := els_of Taint.row_length h
  unfold maxLen at hc2
  obtain ⟨R, hR⟩ : ∃ R, yes (TaintsP l) = R := ⟨_, rfl⟩
  rw [hR]
  have Hno : Hid (¬ TaintsP l → R = false) := fun h => by rw [← hR]; exact yes_f h
  have Hyes : Hid (TaintsP l → R = true) := fun h => by rw [← hR]; exact yes_t h
  have Hk := Lib.hid hk
  have Hz := Lib.hid (fun j (hj : j < l.length) => Nat.le_trans (wsum_mem Taint.wt hj) hz)
  clear h hk hR hz
  by_cases h4 : 4 < l.length
  · have Hf := Lib.hid (Hno.out fun h2 => by have := h2.1; omega)
    go_enter Tryz.func59, Tryz.ntmps59
    go_wp2_with fail
    go_ret
    exact ⟨by rw [Hf.out]; rfl, Below.refl _ _⟩
  have Hmk := Lib.hid (fun h3 => Hyes.out ⟨by omega, h3⟩)
  have Hng := Lib.hid (fun (h3 : ¬ GoodL TaintP lessT l l.length) => Hno.out (fun h => h3 h.2))
  clear Hno Hyes
  go_enter Tryz.func59, Tryz.ntmps59
  go_wp2_with fail
  go_loopw [3] (fun i wr => ∃ j : Nat, j ≤ l.length ∧ i = .int .i64 j ∧ Hid (GoodL TaintP lessT l j) ∧ Below w.heap.size w wr) (fun i _ => l.length - (intOf i).toNat)
  case atStart => exact ⟨0, Nat.zero_le _, rfl, fun i hi hj => by omega, Below.refl _ _⟩
  case round =>
    obtain ⟨j, hj, rfl, hgood, hbel⟩ := hrel
    have Hbel := Lib.hid hbel
    by_cases hlt : j < l.length
    · obtain ⟨g, o, rfl, hg, us, hus, hc, hls⟩ := (Hk.out.below hbel).get hlt
      obtain ⟨rfl, hwf⟩ := Taint.opened hls
      have q0 : ∀ p : BelowBy wr, p.v.cell? ⟨g, o + j * 3, none⟩ = some (.string l[j].key) := fun p => p.cell hg (hc 0 _ rfl)
      have q1 : ∀ p : BelowBy wr, p.v.cell? ⟨g, o + j * 3 + 1, none⟩ = some (.string l[j].value) := fun p => p.cell hg (hc 1 _ rfl)
      have q2 : ∀ p : BelowBy wr, p.v.cell? ⟨g, o + j * 3 + 2, none⟩ = some (.int .i64 l[j].effect) := fun p => p.cell hg (hc 2 _ rfl)
      have HN := Lib.hid (fun p : BelowBy wr => spec_taint l[j] p.v (Hz.out j hlt))
      have HW2 : Hid (∀ p : BelowBy wr, Below w.heap.size w p.v) := fun p => below_link hbel p.h hbel.size
      have hj0 : (0 : Int) ≤ (j : Int) := by omega
      have hjn : (j : Int) < (l.length : Int) := by omega
      by_cases hP : TaintP l[j]
      case neg =>
        have Hf := Lib.hid (Hng.out fun h2 => hP (h2 j hlt hlt).1)
        rw [yes_f hP] at HN
        clear hP Hng Hmk hgood hls hus hc hg hwf Hk hbel
        generalize l[j] = x at *
        go_wp2_with fail
        refine wp_region_quiet_below (by kernel_rfl) (by kernel_rfl) ?_
        repeat (refine @wpQuiet_step _ _ _ _ _ _ _ ?_; intro K hK; go_simp; first | (refine hK _ ?_; clear hK K) | (apply Exists.intro; refine ⟨fun _ => ?_, hK _ ?_⟩; (first | (go_at_call 124; exact Calls.below_of (HN.out _))); clear hK K))
        refine wpQuiet_nil ?_
        intro _ hw'
        obtain ⟨p, rfl⟩ := hw'
        go_wp2_with fail
        go_ret
        exact ⟨by rw [Hf.out]; rfl, HW2.out p⟩
      rw [yes_t hP] at HN
      by_cases hz : j = 0
      · have Hg := Lib.hid (goodL_next hgood.out hlt hP (fun m hm => by omega))
        have hn0 : ¬ (0 : Int) < (j : Int) := by omega
        have hn1 : ¬ 0 < j := by omega
        clear hP Hng Hmk hgood hls hus hc hg hwf Hk hz hbel
        generalize l[j] = x at *
        go_wp2_with fail
        refine wp_region_quiet_below (by kernel_rfl) (by kernel_rfl) ?_
        repeat (refine @wpQuiet_step _ _ _ _ _ _ _ ?_; intro K hK; go_simp; first | (refine hK _ ?_; clear hK K) | (apply Exists.intro; refine ⟨fun _ => ?_, hK _ ?_⟩; (first | (go_at_call 124; exact Calls.below_of (HN.out _))); clear hK K))
        refine wpQuiet_nil ?_
        intro _ hw'
        obtain ⟨p, rfl⟩ := hw'
        go_wp2_with fail
        go_roundw
        case rel => exact ⟨j + 1, by omega, by go_num, Hg.out, HW2.out p⟩
        case measure => simp [intOf]; omega
      obtain ⟨m, hm⟩ : ∃ m, m + 1 = j := ⟨j - 1, by omega⟩
      have hml : m < l.length := by omega
      obtain ⟨g', o', hA3, hg2, us2, hus2, hc2', hls2⟩ := (Hk.out.below hbel).get hml
      injection hA3 with hA3
      injection hA3 with e1 e2
      subst e1 e2
      obtain ⟨rfl, _⟩ := Taint.opened hls2
      have HC := Lib.hid (fun p : BelowBy wr => spec_lessT l[m] l[j] p.v)
      have R0 : ∀ p : BelowBy wr, p.v.cell? ⟨g, o + m * 3, none⟩ = some (.string l[m].key) := fun p => p.cell hg (hc2' 0 _ rfl)
      have R1 : ∀ p : BelowBy wr, p.v.cell? ⟨g, o + m * 3 + 1, none⟩ = some (.string l[m].value) := fun p => p.cell hg (hc2' 1 _ rfl)
      have R2 : ∀ p : BelowBy wr, p.v.cell? ⟨g, o + m * 3 + 2, none⟩ = some (.int .i64 l[m].effect) := fun p => p.cell hg (hc2' 2 _ rfl)
      have hmi : (j : Int) - 1 = (m : Int) := by omega
      have hwm : IntKind.i64.wrap (m : Int) = (m : Int) := IntWalk.i64_in _ (by omega)
      have hm0 : (0 : Int) ≤ (m : Int) := by omega
      have hm1 : (m : Int) < (l.length : Int) := by omega
      have hjp : (0 : Int) < (j : Int) := by omega
      have hjp1 : 0 < j := by omega
      cases hb : lessT l[m] l[j] with
      | true =>
        have Hg := Lib.hid (goodL_next hgood.out hlt hP (fun m' hm' => by obtain rfl : m' = m := by omega
                                                                          exact hb))
        rw [hb] at HC
        clear hP Hng Hmk hgood hls hus hc hg hwf hls2 hus2 hc2' hg2 Hk hz hm hb hbel
        generalize l[j] = x at *
        generalize l[m] = y at *
        go_wp2_with fail
        refine wp_region_quiet_below (by kernel_rfl) (by kernel_rfl) ?_
        repeat (refine @wpQuiet_step _ _ _ _ _ _ _ ?_; intro K hK; go_simp; first | (refine hK _ ?_; clear hK K) | (apply Exists.intro; refine ⟨fun _ => ?_, hK _ ?_⟩; (first | (go_at_call 124; exact Calls.below_of (HN.out _)) | (go_at_call 114; exact Calls.below_of (HC.out _))); clear hK K))
        refine wpQuiet_nil ?_
        intro _ hw'
        obtain ⟨p, rfl⟩ := hw'
        go_wp2_with fail
        go_roundw
        case rel => exact ⟨j + 1, by omega, by go_num, Hg.out, HW2.out p⟩
        case measure => simp [intOf]; omega
      | false =>
        have Hf := Lib.hid (Hng.out fun h2 => by
          have := (h2 j hlt hlt).2 m hm
          rw [hb] at this; cases this)
        rw [hb] at HC
        clear hP Hng Hmk hgood hls hus hc hg hwf hls2 hus2 hc2' hg2 Hk hz hm hb hbel
        generalize l[j] = x at *
        generalize l[m] = y at *
        go_wp2_with fail
        refine wp_region_quiet_below (by kernel_rfl) (by kernel_rfl) ?_
        repeat (refine @wpQuiet_step _ _ _ _ _ _ _ ?_; intro K hK; go_simp; first | (refine hK _ ?_; clear hK K) | (apply Exists.intro; refine ⟨fun _ => ?_, hK _ ?_⟩; (first | (go_at_call 124; exact Calls.below_of (HN.out _)) | (go_at_call 114; exact Calls.below_of (HC.out _))); clear hK K))
        refine wpQuiet_nil ?_
        intro _ hw'
        obtain ⟨p, rfl⟩ := hw'
        go_wp2_with fail
        go_ret
        exact ⟨by rw [Hf.out]; rfl, HW2.out p⟩
    · obtain rfl : j = l.length := by omega
      have Hf := Lib.hid (Hmk.out hgood.out)
      clear hgood hbel
      go_wp2_with fail
      go_ret
      exact ⟨by rw [Hf.out]; rfl, Hbel.out⟩
end Go.Proofs.YtcfbkfmkjggcdaaGreatDoor.taint
namespace Go.Proofs.YtcfbkfmkjggcdaaGreatDoor.pod
open Go.ChangeShapes Go.WideShapes Go.ChangeAt Go.RowKit ty lab need taint
set_option linter.unusedVariables false
set_option maxRecDepth 100000 in
set_option maxHeartbeats 32000000 in
theorem spec_host (x : Host) (f : Nat) (us : List Value) (w : World) (h : LiesS w f us x.row) (hz : x.wt ≤ 1048576) :
    Calls Tryz.prog 18 #[.agg us.toArray] w fun e w' => e = .returned (.bool (yes (HostP x))) ∧ Below w.heap.size w w' := by
  obtain ⟨R, hR⟩ : ∃ R, yes (HostP x) = R := ⟨_, rfl⟩
  rw [hR]
  have Hno : Hid (¬ HostP x → R = false) := fun h => by rw [← hR]; exact yes_f h
  have Hyes : Hid (HostP x → R = true) := fun h => by rw [← hR]; exact yes_t h
  clear hR
  obtain ⟨a0, a1, a2, a3, a4, a5⟩ := x
  obtain ⟨A1, c1, A5, c5, rfl, hwf, k1, m1, l1, k5, m5, l5⟩ := Host.opened h
  unfold Host.wt at hz
  simp only at hz hwf k1 m1 l1 k5 m5 l5
  obtain ⟨w1, hw1⟩ : ∃ w1, w1 = w.alloc (.cells #[.string a0, .slice A1 a1.length c1, .int .i64 a2, .int .i64 a3, .int .i64 a4, .slice A5 a5.length c5] 32) := ⟨_, rfl⟩
  have hb1 : Below w.heap.size w w1 := by rw [hw1]; exact (Below.refl _ _).alloc (Nat.le_refl _) _
  have R1 := Lib.hid (show RowE 32 w1 w.heap.size [.string a0, .slice A1 a1.length c1, .int .i64 a2, .int .i64 a3, .int .i64 a4, .slice A5 a5.length c5] by rw [hw1]; exact RowE.new _ _ _)
  have Hw1 := Lib.hid hw1
  have C0 := Lib.hid (fun w' (hb : Below w.heap.size w w') => drew_below (spec_name a0 w' (by omega)))
  have C1 := Lib.hid (fun w' (hb : Below w.heap.size w w') => drew_below (spec_labels a1 f _ w' (l1.below hb) (small_of (by omega))))
  have C5 := Lib.hid (fun w' (hb : Below w.heap.size w w') => spec_oksTaint a5 f _ w' (l5.below hb) (by omega))
  have HB1 := Lib.hid hb1
  clear h hz hwf hb1 hw1 k1 m1 l1 k5 m5 l5
  by_cases h0 : NameP a0
  case neg =>
    have Hf := Lib.hid (Hno.out fun h => h0 h.name)
    clear Hno Hyes
    rw [yes_f h0] at C0
    clear h0
    go_enter Tryz.func18, Tryz.ntmps18
    go_wp2_with fail
    rw [← Hw1.out]
    refine (C0.out _ HB1.out).mono ?_
    rintro e y0 ⟨rfl, b0⟩
    have HB10 := Lib.hid (below_link HB1.out b0 HB1.out.size)
    have R10 := Lib.hid (R1.out.below b0)
    clear b0
    have p0_0 := R10.out.cell 0 _ rfl
    have p1_0 := R10.out.cell 1 _ rfl
    have p2_0 := R10.out.cell 2 _ rfl
    have p3_0 := R10.out.cell 3 _ rfl
    have p4_0 := R10.out.cell 4 _ rfl
    have p5_0 := R10.out.cell 5 _ rfl
    go_wp2_with fail
    go_ret
    exact ⟨by rw [Hf.out]; rfl, HB10.out⟩
  rw [yes_t h0] at C0
  by_cases h1 : LabelsP a1
  case neg =>
    have Hf := Lib.hid (Hno.out fun h => h1 h.labels)
    clear Hno Hyes
    rw [yes_f h1] at C1
    clear h0 h1
    go_enter Tryz.func18, Tryz.ntmps18
    go_wp2_with fail
    rw [← Hw1.out]
    refine (C0.out _ HB1.out).mono ?_
    rintro e y0 ⟨rfl, b0⟩
    have HB10 := Lib.hid (below_link HB1.out b0 HB1.out.size)
    have R10 := Lib.hid (R1.out.below b0)
    clear b0
    have p0_0 := R10.out.cell 0 _ rfl
    have p1_0 := R10.out.cell 1 _ rfl
    have p2_0 := R10.out.cell 2 _ rfl
    have p3_0 := R10.out.cell 3 _ rfl
    have p4_0 := R10.out.cell 4 _ rfl
    have p5_0 := R10.out.cell 5 _ rfl
    go_wp2_with fail
    refine (C1.out _ HB10.out).mono ?_
    rintro e y1 ⟨rfl, b1⟩
    have HB11 := Lib.hid (below_link HB10.out b1 HB10.out.size)
    have R11 := Lib.hid (R10.out.below b1)
    clear p0_0 p1_0 p2_0 p3_0 p4_0 p5_0
    clear b1
    have p0_1 := R11.out.cell 0 _ rfl
    have p1_1 := R11.out.cell 1 _ rfl
    have p2_1 := R11.out.cell 2 _ rfl
    have p3_1 := R11.out.cell 3 _ rfl
    have p4_1 := R11.out.cell 4 _ rfl
    have p5_1 := R11.out.cell 5 _ rfl
    go_wp2_with fail
    go_ret
    exact ⟨by rw [Hf.out]; rfl, HB11.out⟩
  rw [yes_t h1] at C1
  by_cases h2 : 0 ≤ a2
  case neg =>
    have Hf := Lib.hid (Hno.out fun h => h2 h.cpu)
    clear Hno Hyes
    have g2 := decide_eq_false h2
    clear h0 h1
    go_enter Tryz.func18, Tryz.ntmps18
    go_wp2_with fail
    rw [← Hw1.out]
    refine (C0.out _ HB1.out).mono ?_
    rintro e y0 ⟨rfl, b0⟩
    have HB10 := Lib.hid (below_link HB1.out b0 HB1.out.size)
    have R10 := Lib.hid (R1.out.below b0)
    clear b0
    have p0_0 := R10.out.cell 0 _ rfl
    have p1_0 := R10.out.cell 1 _ rfl
    have p2_0 := R10.out.cell 2 _ rfl
    have p3_0 := R10.out.cell 3 _ rfl
    have p4_0 := R10.out.cell 4 _ rfl
    have p5_0 := R10.out.cell 5 _ rfl
    go_wp2_with fail
    refine (C1.out _ HB10.out).mono ?_
    rintro e y1 ⟨rfl, b1⟩
    have HB11 := Lib.hid (below_link HB10.out b1 HB10.out.size)
    have R11 := Lib.hid (R10.out.below b1)
    clear p0_0 p1_0 p2_0 p3_0 p4_0 p5_0
    clear b1
    have p0_1 := R11.out.cell 0 _ rfl
    have p1_1 := R11.out.cell 1 _ rfl
    have p2_1 := R11.out.cell 2 _ rfl
    have p3_1 := R11.out.cell 3 _ rfl
    have p4_1 := R11.out.cell 4 _ rfl
    have p5_1 := R11.out.cell 5 _ rfl
    go_wp2_with fail
    go_ret
    exact ⟨by rw [Hf.out]; rfl, HB11.out⟩
  have g2 := decide_eq_true h2
  by_cases h3 : 0 ≤ a3
  case neg =>
    have Hf := Lib.hid (Hno.out fun h => h3 h.mem)
    clear Hno Hyes
    have g3 := decide_eq_false h3
    clear h0 h1
    go_enter Tryz.func18, Tryz.ntmps18
    go_wp2_with fail
    rw [← Hw1.out]
    refine (C0.out _ HB1.out).mono ?_
    rintro e y0 ⟨rfl, b0⟩
    have HB10 := Lib.hid (below_link HB1.out b0 HB1.out.size)
    have R10 := Lib.hid (R1.out.below b0)
    clear b0
    have p0_0 := R10.out.cell 0 _ rfl
    have p1_0 := R10.out.cell 1 _ rfl
    have p2_0 := R10.out.cell 2 _ rfl
    have p3_0 := R10.out.cell 3 _ rfl
    have p4_0 := R10.out.cell 4 _ rfl
    have p5_0 := R10.out.cell 5 _ rfl
    go_wp2_with fail
    refine (C1.out _ HB10.out).mono ?_
    rintro e y1 ⟨rfl, b1⟩
    have HB11 := Lib.hid (below_link HB10.out b1 HB10.out.size)
    have R11 := Lib.hid (R10.out.below b1)
    clear p0_0 p1_0 p2_0 p3_0 p4_0 p5_0
    clear b1
    have p0_1 := R11.out.cell 0 _ rfl
    have p1_1 := R11.out.cell 1 _ rfl
    have p2_1 := R11.out.cell 2 _ rfl
    have p3_1 := R11.out.cell 3 _ rfl
    have p4_1 := R11.out.cell 4 _ rfl
    have p5_1 := R11.out.cell 5 _ rfl
    go_wp2_with fail
    go_ret
    exact ⟨by rw [Hf.out]; rfl, HB11.out⟩
  have g3 := decide_eq_true h3
  by_cases h4 : (1 : Int) ≤ a4 ∧ a4 ≤ 20
  case neg =>
    have Hf := Lib.hid (Hno.out fun h => h4 ⟨h.lo, h.hi⟩)
    clear Hno Hyes
    have C4 := Lib.hid (fun w' => in_below a4 1 20 w')
    rw [yes_f h4] at C4
    clear h0 h1 h4
    go_enter Tryz.func18, Tryz.ntmps18
    go_wp2_with fail
    rw [← Hw1.out]
    refine (C0.out _ HB1.out).mono ?_
    rintro e y0 ⟨rfl, b0⟩
    have HB10 := Lib.hid (below_link HB1.out b0 HB1.out.size)
    have R10 := Lib.hid (R1.out.below b0)
    clear b0
    have p0_0 := R10.out.cell 0 _ rfl
    have p1_0 := R10.out.cell 1 _ rfl
    have p2_0 := R10.out.cell 2 _ rfl
    have p3_0 := R10.out.cell 3 _ rfl
    have p4_0 := R10.out.cell 4 _ rfl
    have p5_0 := R10.out.cell 5 _ rfl
    go_wp2_with fail
    refine (C1.out _ HB10.out).mono ?_
    rintro e y1 ⟨rfl, b1⟩
    have HB11 := Lib.hid (below_link HB10.out b1 HB10.out.size)
    have R11 := Lib.hid (R10.out.below b1)
    clear p0_0 p1_0 p2_0 p3_0 p4_0 p5_0
    clear b1
    have p0_1 := R11.out.cell 0 _ rfl
    have p1_1 := R11.out.cell 1 _ rfl
    have p2_1 := R11.out.cell 2 _ rfl
    have p3_1 := R11.out.cell 3 _ rfl
    have p4_1 := R11.out.cell 4 _ rfl
    have p5_1 := R11.out.cell 5 _ rfl
    go_wp2_with fail
    refine (C4.out _).mono ?_
    rintro e y4 ⟨rfl, b4⟩
    have HB14 := Lib.hid (below_link HB11.out b4 HB11.out.size)
    have R14 := Lib.hid (R11.out.below b4)
    clear p0_1 p1_1 p2_1 p3_1 p4_1 p5_1
    clear b4
    have p0_4 := R14.out.cell 0 _ rfl
    have p1_4 := R14.out.cell 1 _ rfl
    have p2_4 := R14.out.cell 2 _ rfl
    have p3_4 := R14.out.cell 3 _ rfl
    have p4_4 := R14.out.cell 4 _ rfl
    have p5_4 := R14.out.cell 5 _ rfl
    go_wp2_with fail
    go_ret
    exact ⟨by rw [Hf.out]; rfl, HB14.out⟩
  have C4 := Lib.hid (fun w' => in_below a4 1 20 w')
  rw [yes_t h4] at C4
  by_cases h5 : TaintsP a5
  case neg =>
    have Hf := Lib.hid (Hno.out fun h => h5 h.taints)
    clear Hno Hyes
    rw [yes_f h5] at C5
    clear h0 h1 h4 h5
    go_enter Tryz.func18, Tryz.ntmps18
    go_wp2_with fail
    rw [← Hw1.out]
    refine (C0.out _ HB1.out).mono ?_
    rintro e y0 ⟨rfl, b0⟩
    have HB10 := Lib.hid (below_link HB1.out b0 HB1.out.size)
    have R10 := Lib.hid (R1.out.below b0)
    clear b0
    have p0_0 := R10.out.cell 0 _ rfl
    have p1_0 := R10.out.cell 1 _ rfl
    have p2_0 := R10.out.cell 2 _ rfl
    have p3_0 := R10.out.cell 3 _ rfl
    have p4_0 := R10.out.cell 4 _ rfl
    have p5_0 := R10.out.cell 5 _ rfl
    go_wp2_with fail
    refine (C1.out _ HB10.out).mono ?_
    rintro e y1 ⟨rfl, b1⟩
    have HB11 := Lib.hid (below_link HB10.out b1 HB10.out.size)
    have R11 := Lib.hid (R10.out.below b1)
    clear p0_0 p1_0 p2_0 p3_0 p4_0 p5_0
    clear b1
    have p0_1 := R11.out.cell 0 _ rfl
    have p1_1 := R11.out.cell 1 _ rfl
    have p2_1 := R11.out.cell 2 _ rfl
    have p3_1 := R11.out.cell 3 _ rfl
    have p4_1 := R11.out.cell 4 _ rfl
    have p5_1 := R11.out.cell 5 _ rfl
    go_wp2_with fail
    refine (C4.out _).mono ?_
    rintro e y4 ⟨rfl, b4⟩
    have HB14 := Lib.hid (below_link HB11.out b4 HB11.out.size)
    have R14 := Lib.hid (R11.out.below b4)
    clear p0_1 p1_1 p2_1 p3_1 p4_1 p5_1
    clear b4
    have p0_4 := R14.out.cell 0 _ rfl
    have p1_4 := R14.out.cell 1 _ rfl
    have p2_4 := R14.out.cell 2 _ rfl
    have p3_4 := R14.out.cell 3 _ rfl
    have p4_4 := R14.out.cell 4 _ rfl
    have p5_4 := R14.out.cell 5 _ rfl
    go_wp2_with fail
    refine (C5.out _ HB14.out).mono ?_
    rintro e y5 ⟨rfl, b5⟩
    have HB15 := Lib.hid (below_link HB14.out b5 HB14.out.size)
    have R15 := Lib.hid (R14.out.below b5)
    clear p0_4 p1_4 p2_4 p3_4 p4_4 p5_4
    clear b5
    have p0_5 := R15.out.cell 0 _ rfl
    have p1_5 := R15.out.cell 1 _ rfl
    have p2_5 := R15.out.cell 2 _ rfl
    have p3_5 := R15.out.cell 3 _ rfl
    have p4_5 := R15.out.cell 4 _ rfl
    have p5_5 := R15.out.cell 5 _ rfl
    go_wp2_with fail
    go_ret
    exact ⟨by rw [Hf.out]; rfl, HB15.out⟩
  rw [yes_t h5] at C5
  have Hf := Lib.hid (Hyes.out ⟨h0, h1, h2, h3, h4.1, h4.2, h5⟩)
  clear Hno Hyes h0 h1 h4 h5
  go_enter Tryz.func18, Tryz.ntmps18
  go_wp2_with fail
  rw [← Hw1.out]
  refine (C0.out _ HB1.out).mono ?_
  rintro e y0 ⟨rfl, b0⟩
  have HB10 := Lib.hid (below_link HB1.out b0 HB1.out.size)
  have R10 := Lib.hid (R1.out.below b0)
  clear b0
  have p0_0 := R10.out.cell 0 _ rfl
  have p1_0 := R10.out.cell 1 _ rfl
  have p2_0 := R10.out.cell 2 _ rfl
  have p3_0 := R10.out.cell 3 _ rfl
  have p4_0 := R10.out.cell 4 _ rfl
  have p5_0 := R10.out.cell 5 _ rfl
  go_wp2_with fail
  refine (C1.out _ HB10.out).mono ?_
  rintro e y1 ⟨rfl, b1⟩
  have HB11 := Lib.hid (below_link HB10.out b1 HB10.out.size)
  have R11 := Lib.hid (R10.out.below b1)
  clear p0_0 p1_0 p2_0 p3_0 p4_0 p5_0
  clear b1
  have p0_1 := R11.out.cell 0 _ rfl
  have p1_1 := R11.out.cell 1 _ rfl
  have p2_1 := R11.out.cell 2 _ rfl
  have p3_1 := R11.out.cell 3 _ rfl
  have p4_1 := R11.out.cell 4 _ rfl
  have p5_1 := R11.out.cell 5 _ rfl
  go_wp2_with fail
  refine (C4.out _).mono ?_
  rintro e y4 ⟨rfl, b4⟩
  have HB14 := Lib.hid (below_link HB11.out b4 HB11.out.size)
  have R14 := Lib.hid (R11.out.below b4)
  clear p0_1 p1_1 p2_1 p3_1 p4_1 p5_1
  clear b4
  have p0_4 := R14.out.cell 0 _ rfl
  have p1_4 := R14.out.cell 1 _ rfl
  have p2_4 := R14.out.cell 2 _ rfl
  have p3_4 := R14.out.cell 3 _ rfl
  have p4_4 := R14.out.cell 4 _ rfl
  have p5_4 := R14.out.cell 5 _ rfl
  go_wp2_with fail
  refine (C5.out _ HB14.out).mono ?_
  rintro e y5 ⟨rfl, b5⟩
  have HB15 := Lib.hid (below_link HB14.out b5 HB14.out.size)
  have R15 := Lib.hid (R14.out.below b5)
  clear p0_4 p1_4 p2_4 p3_4 p4_4 p5_4
  clear b5
  have p0_5 := R15.out.cell 0 _ rfl
  have p1_5 := R15.out.cell 1 _ rfl
  have p2_5 := R15.out.cell 2 _ rfl
  have p3_5 := R15.out.cell 3 _ rfl
  have p4_5 := R15.out.cell 4 _ rfl
  have p5_5 := R15.out.cell 5 _ rfl
  go_wp2_with fail
  go_ret
  exact ⟨by rw [Hf.out]; rfl, HB15.out⟩
end Go.Proofs.YtcfbkfmkjggcdaaGreatDoor.pod
namespace Go.Proofs.YtcfbkfmkjggcdaaGreatDoor.ty
open Go.ChangeShapes Go.WideShapes Go.ChangeAt Go.RowKit
set_option linter.unusedVariables false

theorem sizeTaint : (Tryz.prog.info? 72).map (·.size) = some 3 := by kernel_rfl
theorem toTaint (x : Taint) (w : World) (hx : x.Wf) :
    Calls Tryz.prog 138 #[.agg #[.string x.key, .string x.value, .int .i64 x.effect]] w fun e w' => e = .returned (.agg #[.string x.key, .string x.value, .int .i64 x.effect]) ∧ Below w.heap.size w w' := by
  obtain ⟨a0, a1, a2⟩ := x
  clear hx
  simp only
  have Hb : Hid (∀ (a b c : Obj), Below w.heap.size w (((w.alloc a).alloc b).alloc c)) := fun a b c => (((Below.refl _ _).alloc (Nat.le_refl _) a).alloc (by simp) b).alloc (by simp <;> omega) c
  go_enter Tryz.func138, Tryz.ntmps138
  go_wp2_with fail
  refine bodyPost_ret (v := .agg #[.string a0, .string a1, .int .i64 a2]) ?_ rfl ⟨rfl, Hb.out _ _ _⟩
  have hrow : (((w.alloc (.cells #[.string a0, .string a1, .int .i64 a2] 157)).alloc (.cells #[.string a0, .string a1, .int .i64 a2] 72)).alloc (.cells #[.string a0, .string a1, .int .i64 a2] 72)).heap[w.heap.size + 1]? = some (.cells #[.string a0, .string a1, .int .i64 a2] 72 (0, 0)) := by
    rw [Below.heap_alloc _ _ _ (by simp)]
    have h := heap_alloc_new (w.alloc (.cells #[.string a0, .string a1, .int .i64 a2] 157)) (.cells #[.string a0, .string a1, .int .i64 a2] 72)
    simpa using h
  exact results_cell_row rfl _ _ (w.heap.size + 1) _ #[.string a0, .string a1, .int .i64 a2] (0, 0) _ rfl hrow Tryz.underlying72 rfl sizeTaint
end Go.Proofs.YtcfbkfmkjggcdaaGreatDoor.ty
namespace Go.Proofs.YtcfbkfmkjggcdaaGreatDoor.ty
open Go.ChangeShapes Go.WideShapes Go.ChangeAt Go.RowKit
set_option linter.unusedVariables false

theorem TryzinfoTaint : (Tryz.prog.info? 72).map (fun i => (i.zero, i.size, i.bytes)) = some (some (.agg #[.string ⟨#[]⟩, .string ⟨#[]⟩, .int .i64 0]), 3, 40) := by kernel_rfl
set_option maxRecDepth 100000 in
theorem toTaintS (l : List Taint) (f : Nat) (v : Value) (w : World) (h : Lies w f v (.sl 3 l.length (l.flatMap Taint.row))) (hw : l.length ≤ 1048576) :
    Calls Tryz.prog 77 #[v] w fun e w' => ∃ v', e = .returned v' ∧ OwnRow w' w.heap.size 1 72 3 v' l.length (l.flatMap Taint.row) ∧ Below w.heap.size w w' := by
  obtain ⟨A, c, rfl, hc1, hc2, f', rfl, hk⟩ := els_of Taint.row_length h
  obtain ⟨i0, hi, hz0, hz1, hz2⟩ := info_parts TryzinfoTaint
  unfold maxLen at hc2
  have Hk := Lib.hid hk
  clear h hk
  go_enter Tryz.func77, Tryz.ntmps77
  go_wp2_with (at_make; refine wpList_make_full _ rfl _ _ 30 rfl w.heap.size 72 i0 _ 3 Tryz.underlying30 hi hz0 hz1 .i64 .i64 (l.length : Int) (l.length : Int) l.length rfl rfl rfl rfl (by rw [hz2]; omega) (by unfold maxLen; omega) (by simp) ?_)
  intro w1 hown1 hg1
  have hb1 : Below w.heap.size w w1 := (Below.refl _ _).grown hg1 (Nat.le_refl _) (fun b hb => by cases hb)
  obtain ⟨xs, hown⟩ : ∃ xs : List Value, w1.ownsRow w.heap.size 72 3 (.slice (some ⟨w.heap.size, 0, none⟩) l.length l.length) l.length xs := ⟨_, hown1⟩
  have Hown := Lib.hid hown
  have Hb1 := Lib.hid hb1
  clear hown1 hown hb1 hg1
  go_wp2_with fail
  go_loopw [4] (fun i wr => ∃ (j : Nat) (xs : List Value) (F : List Nat), j ≤ l.length ∧ i = .int .i64 j ∧ wr.ownsRow w.heap.size 72 3 (.slice (some ⟨w.heap.size, 0, none⟩) l.length l.length) l.length xs ∧
    OwnS wr w.heap.size 1 (xs.take (j * 3)) ((l.take j).flatMap Taint.row) F ∧ F.Nodup ∧ (∀ x ∈ F, x ≠ w.heap.size) ∧ Below w.heap.size w wr) (fun i _ => l.length - (intOf i).toNat)
  case atStart => exact ⟨0, xs, [], Nat.zero_le _, rfl, Hown.out, by simpa using OwnS.nil, List.nodup_nil, (fun x hx => by cases hx), Hb1.out⟩
  case round =>
    clear Hown Hb1 xs
    obtain ⟨j, xs, F, hj, rfl, hown, ho, hnd, hne, hbel⟩ := hrel
    by_cases hlt : j < l.length
    · obtain ⟨g, o, rfl, hg, us, hus, hc, hls⟩ := (Hk.out.below hbel).get hlt
      obtain ⟨rfl, hwf⟩ := Taint.opened hls
      have q0 : wr.cell? ⟨g, o + j * 3, none⟩ = some (.string l[j].key) := hc 0 _ rfl
      have q1 : wr.cell? ⟨g, o + j * 3 + 1, none⟩ = some (.string l[j].value) := hc 1 _ rfl
      have q2 : wr.cell? ⟨g, o + j * 3 + 2, none⟩ = some (.int .i64 l[j].effect) := hc 2 _ rfl
      have hr1 : (l.take (j + 1)).flatMap Taint.row = (l.take j).flatMap Taint.row ++ l[j].row := by
        rw [List.take_succ_eq_append_getElem hlt, List.flatMap_append]; simp
      have Hr1 := Lib.hid hr1
      have HC := Lib.hid (toTaint l[j] wr hwf)
      have Hwf := Lib.hid hwf
      have Hown := Lib.hid hown
      have Ho := Lib.hid ho
      have Hbel := Lib.hid hbel
      have hlb : w.heap.size < wr.heap.size := (hown.lt w.heap.size rfl).2
      have Hlb := Lib.hid hlb
      clear hls hg hwf hr1 hown ho hbel hlb hus hc
      generalize l[j] = x at HC Hr1 Hwf q0 q1 q2
      go_wp2_with fail
      refine HC.out.mono ?_
      rintro e w2 ⟨rfl, hb2⟩
      have hown2 := own_below' Hown.out hb2
      have ho2 := Ho.out.below hb2
      obtain ⟨us, hus⟩ : ∃ us : List Value, us = [.string x.key, .string x.value, .int .i64 x.effect] := ⟨_, rfl⟩
      have hlen : us.length = 3 := by rw [hus]; rfl
      have hthere := own_there hown2 (j * 3) us.toArray.size (by simp [hlen]; omega)
      have hone : us.toArray.all (·.oneCell') = true := by rw [hus]; simp [Value.oneCell']
      have hsize : (Tryz.prog.info? 72).map (·.size) = some us.toArray.size := by rw [List.size_toArray, hlen]; exact sizeTaint
      have hoG : OwnS w2 w.heap.size 1 us x.row [] := by rw [hus]; exact Taint.owned Hwf.out
      have Hfill := Lib.hid (own_fill hown2 hlt hlen ho2 hnd hne hoG List.nodup_nil (fun y hy hyG => by cases hyG) (fun y hy => by cases hy) rfl)
      have Hbel2 := Lib.hid (Hbel.out.trans (hb2.mono Hbel.out.size))
      have Hus := Lib.hid hus
      clear HC hoG hb2 hown2 ho2 Ho hnd hne Hown Hbel q0 q1 q2
      rw [show (Value.agg #[.string x.key, .string x.value, .int .i64 x.effect]) = .agg us.toArray by rw [hus]]
      clear hus
      go_wp2_with (first | (refine Go.wpList_store_mid rfl 72 _ _ rfl w.heap.size (j * 3) us.toArray rfl rfl hthere hsize hone ?_) | fail)
      have hf := Hfill.out
      rw [← Hr1.out] at hf
      have hbel3 : Below w.heap.size w (w2.setCells w.heap.size (j * 3) us) := Hbel2.out.grown hf.2.2.2.2 Hbel2.out.size (fun b hb => by injection hb with hb; omega)
      have HF := Lib.hid hf
      have Hbel3 := Lib.hid hbel3
      clear hf hbel3 Hfill hthere hone hsize
      go_wp2_with fail
      go_roundw
      case rel => exact ⟨j + 1, _, _, by omega, by go_num, HF.out.1, HF.out.2.1, HF.out.2.2.1, HF.out.2.2.2.1, Hbel3.out⟩
      case measure => simp [intOf]; omega
    · obtain rfl : j = l.length := by omega
      rw [List.take_of_length_le (Nat.le_refl _)] at ho
      have HR := Lib.hid (own_filled hown (by rw [flat_length' Taint.row_length]) ho hnd hne)
      have Hbel := Lib.hid hbel
      clear hown ho hbel
      go_wp2_with fail
      go_ret
      exact ⟨_, rfl, HR.out, Hbel.out⟩
end Go.Proofs.YtcfbkfmkjggcdaaGreatDoor.ty
