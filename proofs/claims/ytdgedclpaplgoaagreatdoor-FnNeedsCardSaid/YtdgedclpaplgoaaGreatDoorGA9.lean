/- Merged: NeedI AscN SelI NeedS SelS. -/
import Derived.Test.YtdgedclpaplgoaaGreatDoorGA8
import Derived.Test.YtdgedclpaplgoaaGreatDoorGA7
import Derived.Test.YtdgedclpaplgoaaGreatDoorGA2
import Derived.Test.YtdgedclpaplgoaaGreatDoorGA0
import Derived.Laws.Cover1
namespace Go.Proofs.YtdgedclpaplgoaaGreatDoor.need
open Go.ChangeShapes Go.WideShapes Go.ChangeAt Go.RowKit ty lab
set_option linter.unusedVariables false

set_option maxRecDepth 100000 in
set_option maxHeartbeats 16000000 in
theorem impl_need (x : Need) (f : Nat) (vs : List Value) (w : World) (h : LiesS w f vs x.row) (hw : x.wt ≤ 1048576) :
    Calls Tryz.prog 44 #[.agg vs.toArray] w fun e w' => e = .returned (.bool (yes (NeedP x))) ∧ Below w.heap.size w w' := by
  have hk1 := wt_key x
  have hv1 := wt_vals x
  obtain ⟨key, op, vals⟩ := x
  obtain ⟨A2, c2, rfl, hwf, k2, m2, l2⟩ := Need.opened h
  simp only [Need.Wf] at *
  obtain ⟨w0, w1⟩ := hwf
  obtain ⟨R, hR⟩ : ∃ R, yes (NeedP ⟨key, op, vals⟩) = R := ⟨_, rfl⟩
  rw [hR]
  have Hno : Hid (¬ NeedP ⟨key, op, vals⟩ → R = false) := fun h => by rw [← hR]; exact yes_f h
  have Hyes : Hid (NeedP ⟨key, op, vals⟩ → R = true) := fun h => by rw [← hR]; exact yes_t h
  have HB := Lib.hid (Box.new 31 w [.string key, .int .i64 op, .slice A2 vals.length c2])
  have HK := Lib.hid (fun w => impl_key key w (by omega))
  have HA := Lib.hid (fun w' (hb : Below w.heap.size w w') => impl_ascV vals f _ w' (l2.below hb))
  have hvn : vals.length ≤ 1048576 := by omega
  unfold maxLen at m2
  have p0 := HB.out.cell (j := 0) rfl
  clear h l2 hR w0 hk1 hv1 hw
  by_cases hK : KeyP key
  case neg =>
    have Hf := Lib.hid (Hno.out fun h => hK h.key)
    rw [yes_f hK] at HK
    clear hK Hno Hyes HA
    go_enter Tryz.func44, Tryz.ntmps44
    go_wp2_with fail
    refine (HK.out _).mono ?_
    rintro e x1 ⟨rfl, hb⟩
    have B1 := Lib.hid (HB.out.below hb)
    clear hb
    go_wp2_with fail
    go_ret
    exact ⟨by rw [Hf.out]; rfl, B1.out.1⟩
  rw [yes_t hK] at HK
  by_cases h3 : op = 3 ∨ op = 4
  · by_cases hn : vals.length = 0
    · have Hf := Lib.hid (Hyes.out ⟨hK, by simp only; omega, by simp only; omega, fun _ => hn, fun h => by simp only at h; omega⟩)
      have en : ((vals.length : Int) == 0) = true := by rw [hn]; rfl
      clear hK Hno Hyes HA hn
      rcases h3 with rfl | rfl <;>
      · go_enter Tryz.func44, Tryz.ntmps44
        go_wp2_with fail
        refine (HK.out _).mono ?_
        rintro e x1 ⟨rfl, hb⟩
        have B1 := Lib.hid (HB.out.below hb)
        have p1 := B1.out.cell (j := 1) rfl
        have p2 := B1.out.cell (j := 2) rfl
        clear hb
        go_wp2_with fail
        go_ret
        exact ⟨by rw [Hf.out]; rfl, B1.out.1⟩
    · have Hf := Lib.hid (Hno.out fun h => hn (h.none (by simp only; omega)))
      have en : ((vals.length : Int) == 0) = false := by rw [beq_eq_false_iff_ne]; omega
      clear hK Hno Hyes HA hn
      rcases h3 with rfl | rfl <;>
      · go_enter Tryz.func44, Tryz.ntmps44
        go_wp2_with fail
        refine (HK.out _).mono ?_
        rintro e x1 ⟨rfl, hb⟩
        have B1 := Lib.hid (HB.out.below hb)
        have p1 := B1.out.cell (j := 1) rfl
        have p2 := B1.out.cell (j := 2) rfl
        clear hb
        go_wp2_with fail
        go_ret
        exact ⟨by rw [Hf.out]; rfl, B1.out.1⟩
  by_cases h2 : op = 1 ∨ op = 2
  case neg =>
    have Hf := Lib.hid (Hno.out fun h => by have := h.lo; have := h.hi; simp only at *; omega)
    have e1 : (op == 1) = false := by rw [beq_eq_false_iff_ne]; omega
    have e2 : (op == 2) = false := by rw [beq_eq_false_iff_ne]; omega
    have e3 : (op == 3) = false := by rw [beq_eq_false_iff_ne]; omega
    have e4 : (op == 4) = false := by rw [beq_eq_false_iff_ne]; omega
    clear hK Hno Hyes HA h3 h2
    go_enter Tryz.func44, Tryz.ntmps44
    go_wp2_with fail
    refine (HK.out _).mono ?_
    rintro e x1 ⟨rfl, hb⟩
    have B1 := Lib.hid (HB.out.below hb)
    have p1 := B1.out.cell (j := 1) rfl
    clear hb
    go_wp2_with fail
    go_ret
    exact ⟨by rw [Hf.out]; rfl, B1.out.1⟩
  by_cases hn0 : vals.length = 0
  · have Hf := Lib.hid (Hno.out fun h => by have := (h.some (by simp only; omega)).1; simp only at this; omega)
    have g0 : ¬ (0 : Int) < (vals.length : Int) := by omega
    have g1 : ¬ 0 < vals.length := by omega
    clear hK Hno Hyes HA h3 hn0
    rcases h2 with rfl | rfl <;>
    · go_enter Tryz.func44, Tryz.ntmps44
      go_wp2_with fail
      refine (HK.out _).mono ?_
      rintro e x1 ⟨rfl, hb⟩
      have B1 := Lib.hid (HB.out.below hb)
      have p1 := B1.out.cell (j := 1) rfl
      have p2 := B1.out.cell (j := 2) rfl
      clear hb
      go_wp2_with fail
      go_ret
      exact ⟨by rw [Hf.out]; rfl, B1.out.1⟩
  have g0 : (0 : Int) < (vals.length : Int) := by omega
  have g1 : 0 < vals.length := by omega
  by_cases hn4 : vals.length ≤ 4
  case neg =>
    have Hf := Lib.hid (Hno.out fun h => by have := (h.some (by simp only; omega)).2.1; simp only at this; omega)
    have g2 : ¬ (vals.length : Int) ≤ 4 := by omega
    clear hK Hno Hyes HA h3 hn0
    rcases h2 with rfl | rfl <;>
    · go_enter Tryz.func44, Tryz.ntmps44
      go_wp2_with fail
      refine (HK.out _).mono ?_
      rintro e x1 ⟨rfl, hb⟩
      have B1 := Lib.hid (HB.out.below hb)
      have p1 := B1.out.cell (j := 1) rfl
      have p2 := B1.out.cell (j := 2) rfl
      clear hb
      go_wp2_with fail
      go_ret
      exact ⟨by rw [Hf.out]; rfl, B1.out.1⟩
  have g2 : (vals.length : Int) ≤ 4 := by omega
  have Hf : Hid (R = yes (GoodV vals vals.length)) := by
    by_cases hg : GoodV vals vals.length
    · rw [yes_t hg]
      exact Hyes.out ⟨hK, by simp only; omega, by simp only; omega, fun h => by simp only at h; omega, fun _ => ⟨by simp only; omega, by simp only; omega, hg⟩⟩
    · rw [yes_f hg]
      exact Hno.out fun h => hg (h.some (by simp only; omega)).2.2
  clear hK Hno Hyes h3 hn0
  generalize yes (GoodV vals vals.length) = b at Hf HA
  rcases h2 with rfl | rfl <;>
  · go_enter Tryz.func44, Tryz.ntmps44
    go_wp2_with fail
    refine (HK.out _).mono ?_
    rintro e x1 ⟨rfl, hb⟩
    have B1 := Lib.hid (HB.out.below hb)
    have p1 := B1.out.cell (j := 1) rfl
    have p2 := B1.out.cell (j := 2) rfl
    clear hb
    go_wp2_with fail
    refine (HA.out _ B1.out.1).mono ?_
    rintro e x2 ⟨rfl, hb⟩
    have B2 := Lib.hid (B1.out.below hb)
    clear hb
    go_wp2_with fail
    go_ret
    exact ⟨by rw [Hf.out]; rfl, B2.out.1⟩
end Go.Proofs.YtdgedclpaplgoaaGreatDoor.need
namespace Go.Proofs.YtdgedclpaplgoaaGreatDoor.need
open Go.ChangeShapes Go.WideShapes Go.ChangeAt Go.RowKit ty lab
set_option linter.unusedVariables false

set_option maxRecDepth 100000 in
set_option maxHeartbeats 16000000 in
theorem impl_ascN (l : List Need) (f : Nat) (v : Value) (w : World) (h : Lies w f v (.sl 3 l.length (l.flatMap Need.row))) (hw : ∀ j (h : j < l.length), l[j].wt ≤ 1048576) :
    Calls Tryz.prog 47 #[v, .func (.func 44) #[] #[], .func (.func 39) #[] #[]] w fun e w' => e = .returned (.bool (yes (GoodN l l.length))) ∧ Below w.heap.size w w' := by
  obtain ⟨A, c, rfl, hc1, hc2, f', rfl, hk⟩ := els_of Need.row_length h
  unfold maxLen at hc2
  obtain ⟨R, hR⟩ : ∃ R, yes (GoodN l l.length) = R := ⟨_, rfl⟩
  rw [hR]
  have Hno : Hid (¬ GoodN l l.length → R = false) := fun h => by rw [← hR]; exact yes_f h
  have Hyes : Hid (GoodN l l.length → R = true) := fun h => by rw [← hR]; exact yes_t h
  have Hwt := Lib.hid hw
  have Hk := Lib.hid hk
  clear h hk hR hw
  go_enter Tryz.func47, Tryz.ntmps47
  go_wp2_with fail
  go_loopw [11] (fun i wr => ∃ j : Nat, j ≤ l.length ∧ i = .int .i64 j ∧ Hid (GoodN l j) ∧ Below w.heap.size w wr) (fun i _ => l.length - (intOf i).toNat)
  case atStart => exact ⟨0, Nat.zero_le _, rfl, fun i hi hj => by omega, Below.refl _ _⟩
  case round =>
    obtain ⟨j, hj, rfl, hgood, hbel⟩ := hrel
    have Hbel := Lib.hid hbel
    by_cases hlt : j < l.length
    · obtain ⟨g, o, A2, c2, rfl, q0, q1, q2, hls⟩ := el_at Hk.out hbel hlt
      obtain ⟨X, hX⟩ : ∃ X, X = wr.alloc (.cells #[.string l[j].key, .int .i64 l[j].op, .slice A2 l[j].values.length c2] 31) := ⟨_, rfl⟩
      have HB := Lib.hid (Box.new 31 wr [.string l[j].key, .int .i64 l[j].op, .slice A2 l[j].values.length c2])
      have hbX : Below wr.heap.size wr X := by rw [hX]; exact HB.out.1
      have HN := Lib.hid (fun p : BelowBy X => impl_need l[j] f' _ p.v (hls ⟨p.v, hbX.trans (p.h.mono hbX.size)⟩) (Hwt.out j hlt))
      have HW2 : Hid (∀ p : BelowBy X, Below w.heap.size w p.v) := fun p => below_link hbel (hbX.trans (p.h.mono hbX.size)) hbel.size
      have B0 : ∀ p : BelowBy X, p.v.cell? ⟨wr.heap.size, 0, none⟩ = some (.string l[j].key) := fun p => p.cell (by rw [hX]; simp) (by rw [hX]; exact HB.out.cell (j := 0) rfl)
      have B1 : ∀ p : BelowBy X, p.v.cell? ⟨wr.heap.size, 1, none⟩ = some (.int .i64 l[j].op) := fun p => p.cell (by rw [hX]; simp) (by rw [hX]; exact HB.out.cell (j := 1) rfl)
      have B2 : ∀ p : BelowBy X, p.v.cell? ⟨wr.heap.size, 2, none⟩ = some (.slice A2 l[j].values.length c2) := fun p => p.cell (by rw [hX]; simp) (by rw [hX]; exact HB.out.cell (j := 2) rfl)
      have HX := Lib.hid hX
      have HbX := Lib.hid hbX
      have q0 := q0 ⟨wr, Below.refl _ _⟩
      have q1 := q1 ⟨wr, Below.refl _ _⟩
      have q2 := q2 ⟨wr, Below.refl _ _⟩
      simp only at q0 q1 q2
      have hj0 : (0 : Int) ≤ (j : Int) := by omega
      have hjn : (j : Int) < (l.length : Int) := by omega
      by_cases hP : NeedP l[j]
      case neg =>
        have Hf := Lib.hid (Hno.out fun h2 => hP (h2 j hlt hlt).1)
        rw [yes_f hP] at HN
        clear hP Hno Hyes hgood hls Hwt Hk hbel hX hbX HB
        generalize l[j] = x at *
        go_wp2_with fail
        rw [← HX.out]
        refine wp_region_quiet_below (by kernel_rfl) (by kernel_rfl) ?_
        repeat (refine @wpQuiet_step _ _ _ _ _ _ _ ?_; intro K hK; go_simp; first | (refine hK _ ?_; clear hK K) | (apply Exists.intro; refine ⟨fun _ => ?_, hK _ ?_⟩; (first | (go_at_call 44; exact Calls.below_of (HN.out _))); clear hK K))
        refine wpQuiet_nil ?_
        intro _ hw'
        obtain ⟨p, rfl⟩ := hw'
        go_wp2_with fail
        go_ret
        exact ⟨by rw [Hf.out]; rfl, HW2.out p⟩
      rw [yes_t hP] at HN
      by_cases hz : j = 0
      · have Hg := Lib.hid (goodN_next hgood.out hlt hP (fun m hm => by omega))
        have hn0 : ¬ (0 : Int) < (j : Int) := by omega
        have hn1 : ¬ 0 < j := by omega
        clear hP Hno Hyes hgood hls Hwt Hk hz hbel hX hbX HB
        generalize l[j] = x at *
        go_wp2_with fail
        rw [← HX.out]
        refine wp_region_quiet_below (by kernel_rfl) (by kernel_rfl) ?_
        repeat (refine @wpQuiet_step _ _ _ _ _ _ _ ?_; intro K hK; go_simp; first | (refine hK _ ?_; clear hK K) | (apply Exists.intro; refine ⟨fun _ => ?_, hK _ ?_⟩; (first | (go_at_call 44; exact Calls.below_of (HN.out _))); clear hK K))
        refine wpQuiet_nil ?_
        intro _ hw'
        obtain ⟨p, rfl⟩ := hw'
        go_wp2_with fail
        go_roundw
        case rel => exact ⟨j + 1, by omega, by go_num, Hg.out, HW2.out p⟩
        case measure => simp [intOf]; omega
      obtain ⟨m, hm⟩ : ∃ m, m + 1 = j := ⟨j - 1, by omega⟩
      have hml : m < l.length := by omega
      obtain ⟨g', o', A3, c3, hA3, r0, r1, r2, hls2⟩ := el_at Hk.out hbel hml
      injection hA3 with hA3
      injection hA3 with e1 e2
      subst e1 e2
      have HC := Lib.hid (fun p : BelowBy X => gr_below (cmp_gr l[m] l[j] f' f' _ _ p.v (hls2 ⟨p.v, hbX.trans (p.h.mono hbX.size)⟩) (hls ⟨p.v, hbX.trans (p.h.mono hbX.size)⟩)))
      have R0 : ∀ p : BelowBy X, p.v.cell? ⟨g, o + m * 3, none⟩ = some (.string l[m].key) := fun p => r0 ⟨p.v, hbX.trans (p.h.mono hbX.size)⟩
      have R1 : ∀ p : BelowBy X, p.v.cell? ⟨g, o + m * 3 + 1, none⟩ = some (.int .i64 l[m].op) := fun p => r1 ⟨p.v, hbX.trans (p.h.mono hbX.size)⟩
      have R2 : ∀ p : BelowBy X, p.v.cell? ⟨g, o + m * 3 + 2, none⟩ = some (.slice A3 l[m].values.length c3) := fun p => r2 ⟨p.v, hbX.trans (p.h.mono hbX.size)⟩
      have hmi : (j : Int) - 1 = (m : Int) := by omega
      have hwm : IntKind.i64.wrap (m : Int) = (m : Int) := IntWalk.i64_in _ (by omega)
      have hm0 : (0 : Int) ≤ (m : Int) := by omega
      have hm1 : (m : Int) < (l.length : Int) := by omega
      have hjp : (0 : Int) < (j : Int) := by omega
      have hjp1 : 0 < j := by omega
      have hb := cmpN_less l[m] l[j]
      by_cases hr : cmpN l[m] l[j] < 0
      · rw [decide_eq_true hr] at hb
        have Hg := Lib.hid (goodN_next hgood.out hlt hP (fun m' hm' => by obtain rfl : m' = m := by omega
                                                                          exact hb.symm))
        have hr0 : ¬ (0 : Int) ≤ cmpN l[m] l[j] := by omega
        clear hP Hno Hyes hgood hls hls2 Hwt Hk hz hm hb hbel hX hbX HB r0 r1 r2
        generalize cmpN l[m] l[j] = r at HC hr0 hr
        generalize l[j] = x at *
        generalize l[m] = y at *
        go_wp2_with fail
        rw [← HX.out]
        refine wp_region_quiet_below (by kernel_rfl) (by kernel_rfl) ?_
        repeat (refine @wpQuiet_step _ _ _ _ _ _ _ ?_; intro K hK; go_simp; first | (refine hK _ ?_; clear hK K) | (apply Exists.intro; refine ⟨fun _ => ?_, hK _ ?_⟩; (first | (go_at_call 44; exact Calls.below_of (HN.out _)) | (go_at_call 39; exact Calls.below_of (HC.out _))); clear hK K))
        refine wpQuiet_nil ?_
        intro _ hw'
        obtain ⟨p, rfl⟩ := hw'
        go_wp2_with fail
        go_roundw
        case rel => exact ⟨j + 1, by omega, by go_num, Hg.out, HW2.out p⟩
        case measure => simp [intOf]; omega
      · rw [decide_eq_false hr] at hb
        have Hf := Lib.hid (Hno.out fun h2 => by
          have := (h2 j hlt hlt).2 m hm
          rw [← hb] at this; cases this)
        have hr0 : (0 : Int) ≤ cmpN l[m] l[j] := by omega
        clear hP Hno Hyes hgood hls hls2 Hwt Hk hz hm hb hbel hX hbX HB r0 r1 r2
        generalize cmpN l[m] l[j] = r at HC hr0 hr
        generalize l[j] = x at *
        generalize l[m] = y at *
        go_wp2_with fail
        rw [← HX.out]
        refine wp_region_quiet_below (by kernel_rfl) (by kernel_rfl) ?_
        repeat (refine @wpQuiet_step _ _ _ _ _ _ _ ?_; intro K hK; go_simp; first | (refine hK _ ?_; clear hK K) | (apply Exists.intro; refine ⟨fun _ => ?_, hK _ ?_⟩; (first | (go_at_call 44; exact Calls.below_of (HN.out _)) | (go_at_call 39; exact Calls.below_of (HC.out _))); clear hK K))
        refine wpQuiet_nil ?_
        intro _ hw'
        obtain ⟨p, rfl⟩ := hw'
        go_wp2_with fail
        go_ret
        exact ⟨by rw [Hf.out]; rfl, HW2.out p⟩
    · obtain rfl : j = l.length := by omega
      have Hf := Lib.hid (Hyes.out hgood.out)
      clear hgood hbel
      go_wp2_with fail
      go_ret
      exact ⟨by rw [Hf.out]; rfl, Hbel.out⟩
end Go.Proofs.YtdgedclpaplgoaaGreatDoor.need
namespace Go.Proofs.YtdgedclpaplgoaaGreatDoor.need
open Go.ChangeShapes Go.WideShapes Go.ChangeAt Go.RowKit ty lab
set_option linter.unusedVariables false

set_option maxRecDepth 100000 in
theorem impl_sel (l : List Need) (f : Nat) (v : Value) (w : World) (h : Lies w f v (.sl 3 l.length (l.flatMap Need.row))) (hw : l.length + wsum Need.wt l ≤ 1048576) :
    Calls Tryz.prog 13 #[v] w fun e w' => e = .returned (.bool (yes (SelP l))) ∧ Below w.heap.size w w' := by
  have HA := Lib.hid (impl_ascN l f v w h (fun j hj => by have := wsum_mem Need.wt hj; omega))
  obtain ⟨A, c, rfl, hc1, hc2, f', rfl, hk⟩ := els_of Need.row_length h
  unfold maxLen at hc2
  obtain ⟨R, hR⟩ : ∃ R, yes (SelP l) = R := ⟨_, rfl⟩
  rw [hR]
  have hcase : (¬ l.length ≤ 4 ∧ R = false) ∨ (l.length ≤ 4 ∧ R = yes (GoodN l l.length)) := by
    rw [← hR]
    by_cases h4 : l.length ≤ 4
    · refine .inr ⟨h4, ?_⟩
      by_cases hg : GoodN l l.length
      · rw [yes_t hg]; exact yes_t ⟨h4, hg⟩
      · rw [yes_f hg]; exact yes_f fun h => hg h.2
    · exact .inl ⟨h4, yes_f fun h => h4 h.1⟩
  clear h hk hR hw
  generalize yes (GoodN l l.length) = b at HA hcase
  rcases hcase with ⟨h4, hf⟩ | ⟨h4, hf⟩
  · have Hf := Lib.hid hf
    have g0 : ¬ (l.length : Int) ≤ 4 := by omega
    clear hf HA
    go_enter Tryz.func13, Tryz.ntmps13
    go_wp2_with fail
    go_ret
    exact ⟨by rw [Hf.out]; rfl, Below.refl _ _⟩
  · have Hf := Lib.hid hf
    have g0 : (l.length : Int) ≤ 4 := by omega
    clear hf
    go_enter Tryz.func13, Tryz.ntmps13
    go_wp2_with fail
    refine HA.out.mono ?_
    rintro e x1 ⟨rfl, hb⟩
    have B1 := Lib.hid hb
    clear hb
    go_wp2_with fail
    go_ret
    exact ⟨by rw [Hf.out]; rfl, B1.out⟩
end Go.Proofs.YtdgedclpaplgoaaGreatDoor.need
namespace Go.Proofs.YtdgedclpaplgoaaGreatDoor.need
open Go.ChangeShapes Go.WideShapes Go.ChangeAt Go.RowKit ty lab
set_option linter.unusedVariables false

set_option maxRecDepth 100000 in
set_option maxHeartbeats 16000000 in
theorem spec_need (x : Need) (f : Nat) (vs : List Value) (w : World) (h : LiesS w f vs x.row) (hw : x.wt ≤ 1048576) :
    Calls Tryz.prog 86 #[.agg vs.toArray] w fun e w' => e = .returned (.bool (yes (NeedP x))) ∧ Below w.heap.size w w' := by
  have hk1 := wt_key x
  have hv1 := wt_vals x
  have hvz : ∀ k (h : k < x.values.length), x.values[k].size ≤ 1048576 := fun k h => Nat.le_trans (wt_val h) hw
  obtain ⟨key, op, vals⟩ := x
  obtain ⟨A2, c2, rfl, hwf, k2, m2, l2⟩ := Need.opened h
  simp only [Need.Wf] at *
  obtain ⟨w0, w1⟩ := hwf
  have hop := i64_bd w1
  obtain ⟨A', c', hA', _, _, hr, _⟩ := Str.opened l2
  injection hA' with a1 _ a3
  subst a1 a3
  obtain ⟨R, hR⟩ : ∃ R, yes (NeedP ⟨key, op, vals⟩) = R := ⟨_, rfl⟩
  rw [hR]
  have Hno : Hid (¬ NeedP ⟨key, op, vals⟩ → R = false) := fun h => by rw [← hR]; exact yes_f h
  have Hyes : Hid (NeedP ⟨key, op, vals⟩ → R = true) := fun h => by rw [← hR]; exact yes_t h
  have HB := Lib.hid (Box.new 31 w [.string key, .int .i64 op, .slice A2 vals.length c2])
  have HK := Lib.hid (fun w => spec_key key w (by omega))
  have Hr := Lib.hid hr
  have Hvz := Lib.hid hvz
  have hvn : vals.length ≤ 1048576 := by omega
  unfold maxLen at m2
  have p0 := HB.out.cell (j := 0) rfl
  have p1 := HB.out.cell (j := 1) rfl
  have p2 := HB.out.cell (j := 2) rfl
  clear h l2 hr hvz hR w0 w1 hk1 hv1 hw
  by_cases hK : KeyP key
  case neg =>
    have Hf := Lib.hid (Hno.out fun h => hK h.key)
    rw [yes_f hK] at HK
    clear hK Hno Hyes Hr Hvz p1 p2
    go_enter Tryz.func86, Tryz.ntmps86
    go_wp2_with fail
    refine (HK.out _).mono ?_
    rintro e x1 ⟨rfl, n1, rfl⟩
    go_wp2_with fail
    go_ret
    exact ⟨by rw [Hf.out]; rfl, below_drewN HB.out.1 n1⟩
  rw [yes_t hK] at HK
  by_cases ho : 1 ≤ op ∧ op ≤ 4
  case neg =>
    have Hf := Lib.hid (Hno.out fun h => ho ⟨h.lo, h.hi⟩)
    have HI := Lib.hid (fun w => arith.in_no op 1 4 w (by omega))
    clear hK ho Hno Hyes Hr Hvz p2
    go_enter Tryz.func86, Tryz.ntmps86
    go_wp2_with fail
    refine (HK.out _).mono ?_
    rintro e x1 ⟨rfl, n1, rfl⟩
    go_wp2_with fail
    refine (HI.out _).mono ?_
    rintro e x2 ⟨rfl, rfl⟩
    go_wp2_with fail
    go_ret
    exact ⟨by rw [Hf.out]; rfl, below_drewN HB.out.1 n1⟩
  obtain ⟨ho1, ho4⟩ := ho
  have HI := Lib.hid (fun w => arith.in_yes op 1 4 w (by omega) (by omega))
  by_cases h3 : 3 ≤ op
  · by_cases hn : vals.length = 0
    · have Hf := Lib.hid (Hyes.out ⟨hK, ho1, ho4, fun _ => hn, fun h => by simp only at h; omega⟩)
      have en : ((vals.length : Int) == 0) = true := by rw [hn]; rfl
      clear hK Hno Hyes Hr Hvz hn
      go_enter Tryz.func86, Tryz.ntmps86
      go_wp2_with fail
      refine (HK.out _).mono ?_
      rintro e x1 ⟨rfl, n1, rfl⟩
      go_wp2_with fail
      refine (HI.out _).mono ?_
      rintro e x2 ⟨rfl, rfl⟩
      go_wp2_with fail
      go_ret
      exact ⟨by rw [Hf.out]; rfl, below_drewN HB.out.1 n1⟩
    · have Hf := Lib.hid (Hno.out fun h => hn (h.none h3))
      have en : ((vals.length : Int) == 0) = false := by rw [beq_eq_false_iff_ne]; omega
      clear hK Hno Hyes Hr Hvz hn
      go_enter Tryz.func86, Tryz.ntmps86
      go_wp2_with fail
      refine (HK.out _).mono ?_
      rintro e x1 ⟨rfl, n1, rfl⟩
      go_wp2_with fail
      refine (HI.out _).mono ?_
      rintro e x2 ⟨rfl, rfl⟩
      go_wp2_with fail
      go_ret
      exact ⟨by rw [Hf.out]; rfl, below_drewN HB.out.1 n1⟩
  by_cases hn : 1 ≤ vals.length ∧ vals.length ≤ 4
  case neg =>
    have Hf := Lib.hid (Hno.out fun h => by have := h.some (by simp only; omega); exact hn ⟨this.1, this.2.1⟩)
    have HI2 := Lib.hid (fun w => arith.in_no (vals.length : Int) 1 4 w (by omega))
    clear hK hn Hno Hyes Hr Hvz
    go_enter Tryz.func86, Tryz.ntmps86
    go_wp2_with fail
    refine (HK.out _).mono ?_
    rintro e x1 ⟨rfl, n1, rfl⟩
    go_wp2_with fail
    refine (HI.out _).mono ?_
    rintro e x2 ⟨rfl, rfl⟩
    go_wp2_with fail
    refine (HI2.out _).mono ?_
    rintro e x2 ⟨rfl, rfl⟩
    go_wp2_with fail
    go_ret
    exact ⟨by rw [Hf.out]; rfl, below_drewN HB.out.1 n1⟩
  obtain ⟨hn1, hn4⟩ := hn
  have HI2 := Lib.hid (fun w => arith.in_yes (vals.length : Int) 1 4 w (by omega) (by omega))
  have Hmk := Lib.hid (fun (hg : GoodV vals vals.length) => Hyes.out ⟨hK, ho1, ho4, fun h => by simp only at h; omega, fun _ => ⟨hn1, hn4, hg⟩⟩)
  have Hno2 := Lib.hid (fun (hg : ¬ GoodV vals vals.length) => Hno.out fun h => hg (h.some (by simp only; omega)).2.2)
  clear hK Hno Hyes
  go_enter Tryz.func86, Tryz.ntmps86
  go_wp2_with fail
  refine (HK.out _).mono ?_
  rintro e x1 ⟨rfl, n1, hx1⟩
  have B1 := Lib.hid (show Box 31 w [.string key, .int .i64 op, .slice A2 vals.length c2] x1 by rw [hx1]; exact HB.out.drewN n1)
  have p1 := B1.out.cell (j := 1) rfl
  have p2 := B1.out.cell (j := 2) rfl
  clear hx1 HK
  go_wp2_with fail
  refine (HI.out _).mono ?_
  rintro e x2 ⟨rfl, rfl⟩
  go_wp2_with fail
  refine (HI2.out _).mono ?_
  rintro e x2 ⟨rfl, rfl⟩
  clear HI HI2 HB p0
  go_wp2_with fail
  go_loopw [3] (fun i wr => ∃ j : Nat, j ≤ vals.length ∧ i = .int .i64 j ∧ Hid (GoodV vals j) ∧ Box 31 w [.string key, .int .i64 op, .slice A2 vals.length c2] wr) (fun i _ => vals.length - (intOf i).toNat)
  case atStart => exact ⟨0, Nat.zero_le _, rfl, fun i hi hj => by omega, B1.out⟩
  case round =>
    clear B1 p1 p2
    obtain ⟨j, hj, rfl, hgood, hbox⟩ := hrel
    have p2 := hbox.cell (j := 2) rfl
    have Hbox := Lib.hid hbox
    by_cases hlt : j < vals.length
    · have hbw := hbox.1
      have hbl : w.heap.size < wr.heap.size := heap_lt hbox.2
      obtain ⟨g, o, rfl, hg, hc0⟩ := (Hr.out.below hbw).2 (by omega)
      have q0 : ∀ p : BelowBy wr, p.v.cell? ⟨g, o + j, none⟩ = some (.string vals[j]) := fun p => p.cell hg (hc0 j hlt _ (scells_get vals j hlt))
      have P2 : ∀ p : BelowBy wr, p.v.cell? ⟨w.heap.size, 2, none⟩ = some (.slice (some ⟨g, o, none⟩) vals.length c2) := fun p => p.cell hbl p2
      have HV := Lib.hid (fun w => drew_below' (spec_val vals[j] w (Hvz.out j hlt)))
      have hj0 : (0 : Int) ≤ (j : Int) := by omega
      have hjn : (j : Int) < (vals.length : Int) := by omega
      have hwj : IntKind.i64.wrap (j : Int) = (j : Int) := IntWalk.i64_in _ (by omega)
      by_cases hV : ValP vals[j]
      case neg =>
        have Hf := Lib.hid (Hno2.out fun h2 => hV (h2 j hlt hlt).1)
        rw [yes_f hV] at HV
        clear hV Hmk Hno2 hgood hc0 hbox hbw hg Hr Hvz
        generalize vals[j] = y at q0 HV
        go_wp2_with fail
        refine wp_region_quiet_below (by kernel_rfl) (by kernel_rfl) ?_
        repeat (refine @wpQuiet_step _ _ _ _ _ _ _ ?_; intro K hK; go_simp; first | (refine hK _ ?_; clear hK K) | (apply Exists.intro; refine ⟨fun _ => ?_, hK _ ?_⟩; (first | (go_at_call 108; exact Calls.below_of (HV.out _))); clear hK K))
        refine wpQuiet_nil ?_
        intro _ hw'
        obtain ⟨p, rfl⟩ := hw'
        go_wp2_with fail
        go_ret
        exact ⟨by rw [Hf.out]; rfl, (Hbox.out.below p.h).1⟩
      rw [yes_t hV] at HV
      by_cases hz : j = 0
      · have Hg := Lib.hid (goodV_next hgood.out hlt hV (fun m hm => by omega))
        have hn0 : ¬ (0 : Int) < (j : Int) := by omega
        have hn1' : ¬ 0 < j := by omega
        clear hV Hmk Hno2 hgood hc0 hbox hbw hg Hr Hvz hz
        generalize vals[j] = y at q0 HV
        go_wp2_with fail
        refine wp_region_quiet_below (by kernel_rfl) (by kernel_rfl) ?_
        repeat (refine @wpQuiet_step _ _ _ _ _ _ _ ?_; intro K hK; go_simp; first | (refine hK _ ?_; clear hK K) | (apply Exists.intro; refine ⟨fun _ => ?_, hK _ ?_⟩; (first | (go_at_call 108; exact Calls.below_of (HV.out _))); clear hK K))
        refine wpQuiet_nil ?_
        intro _ hw'
        obtain ⟨p, rfl⟩ := hw'
        go_wp2_with fail
        go_roundw
        case rel => exact ⟨j + 1, by omega, by go_num, Hg.out, Hbox.out.below p.h⟩
        case measure => simp [intOf]; omega
      obtain ⟨m, hm⟩ : ∃ m, m + 1 = j := ⟨j - 1, by omega⟩
      have hml : m < vals.length := by omega
      have q1 : ∀ p : BelowBy wr, p.v.cell? ⟨g, o + m, none⟩ = some (.string vals[m]) := fun p => p.cell hg (hc0 m hml _ (scells_get vals m hml))
      have hmi : (j : Int) - 1 = (m : Int) := by omega
      have hwm : IntKind.i64.wrap (m : Int) = (m : Int) := IntWalk.i64_in _ (by omega)
      have hm0 : (0 : Int) ≤ (m : Int) := by omega
      have hm1 : (m : Int) < (vals.length : Int) := by omega
      have hjp : (0 : Int) < (j : Int) := by omega
      have hjp1 : 0 < j := by omega
      cases hb : lessB vals[m] vals[j] with
      | true =>
        have Hg := Lib.hid (goodV_next hgood.out hlt hV (fun m' hm' => by obtain rfl : m' = m := by omega
                                                                          exact hb))
        unfold lessB at hb
        clear hV Hmk Hno2 hgood hc0 hbox hbw hg Hr Hvz hz hm
        generalize vals[j] = y at q0 HV hb
        generalize vals[m] = z at q1 hb
        go_wp2_with fail
        refine wp_region_quiet_below (by kernel_rfl) (by kernel_rfl) ?_
        repeat (refine @wpQuiet_step _ _ _ _ _ _ _ ?_; intro K hK; go_simp; first | (refine hK _ ?_; clear hK K) | (apply Exists.intro; refine ⟨fun _ => ?_, hK _ ?_⟩; (first | (go_at_call 108; exact Calls.below_of (HV.out _))); clear hK K))
        refine wpQuiet_nil ?_
        intro _ hw'
        obtain ⟨p, rfl⟩ := hw'
        go_wp2_with fail
        go_roundw
        case rel => exact ⟨j + 1, by omega, by go_num, Hg.out, Hbox.out.below p.h⟩
        case measure => simp [intOf]; omega
      | false =>
        have Hf := Lib.hid (Hno2.out fun h2 => by rw [(h2 j hlt hlt).2 m hm] at hb; cases hb)
        unfold lessB at hb
        clear hV Hmk Hno2 hgood hc0 hbox hbw hg Hr Hvz hz hm
        generalize vals[j] = y at q0 HV hb
        generalize vals[m] = z at q1 hb
        go_wp2_with fail
        refine wp_region_quiet_below (by kernel_rfl) (by kernel_rfl) ?_
        repeat (refine @wpQuiet_step _ _ _ _ _ _ _ ?_; intro K hK; go_simp; first | (refine hK _ ?_; clear hK K) | (apply Exists.intro; refine ⟨fun _ => ?_, hK _ ?_⟩; (first | (go_at_call 108; exact Calls.below_of (HV.out _))); clear hK K))
        refine wpQuiet_nil ?_
        intro _ hw'
        obtain ⟨p, rfl⟩ := hw'
        go_wp2_with fail
        go_ret
        exact ⟨by rw [Hf.out]; rfl, (Hbox.out.below p.h).1⟩
    · obtain rfl : j = vals.length := by omega
      have Hf := Lib.hid (Hmk.out hgood.out)
      clear hgood hbox
      go_wp2_with fail
      go_ret
      exact ⟨by rw [Hf.out]; rfl, Hbox.out.1⟩
end Go.Proofs.YtdgedclpaplgoaaGreatDoor.need
namespace Go.Proofs.YtdgedclpaplgoaaGreatDoor.need
open Go.ChangeShapes Go.WideShapes Go.ChangeAt Go.RowKit ty lab
set_option linter.unusedVariables false
set_option maxRecDepth 100000 in
set_option maxHeartbeats 16000000 in
theorem spec_sel (l : List Need) (f : Nat) (v : Value) (w : World) (h : Lies w f v (.sl 3 l.length (l.flatMap Need.row))) (hw : l.length + wsum Need.wt l ≤ 1048576) :
    Calls Tryz.prog 43 #[v] w fun e w' => e = .returned (.bool (yes (SelP l))) ∧ Below w.heap.size w w' := by
  obtain ⟨A, c, rfl, hc1, hc2, f', rfl, hk⟩ := els_of Need.row_length h
  unfold maxLen at hc2
  obtain ⟨R, hR⟩ : ∃ R, yes (SelP l) = R := ⟨_, rfl⟩
  rw [hR]
  have Hno : Hid (¬ SelP l → R = false) := fun h => by rw [← hR]; exact yes_f h
  have Hyes : Hid (SelP l → R = true) := fun h => by rw [← hR]; exact yes_t h
  have Hwt : Hid (∀ j (h : j < l.length), l[j].wt ≤ 1048576) := fun j h => by have := wsum_mem Need.wt h; omega
  have Hk := Lib.hid hk
  clear h hk hR hw
  by_cases h6 : 4 < l.length
  · have Hf := Lib.hid (Hno.out fun h2 => by have := h2.1; omega)
    go_enter Tryz.func43, Tryz.ntmps43
    go_wp2_with fail
    go_ret
    exact ⟨by rw [Hf.out]; rfl, Below.refl _ _⟩
  have Hmk := Lib.hid (fun h3 => Hyes.out ⟨by omega, h3⟩)
  go_enter Tryz.func43, Tryz.ntmps43
  go_wp2_with fail
  go_loopw [3] (fun i wr => ∃ j : Nat, j ≤ l.length ∧ i = .int .i64 j ∧ Hid (GoodN l j) ∧ Below w.heap.size w wr) (fun i _ => l.length - (intOf i).toNat)
  case atStart => exact ⟨0, Nat.zero_le _, rfl, fun i hi hj => by omega, Below.refl _ _⟩
  case round =>
    obtain ⟨j, hj, rfl, hgood, hbel⟩ := hrel
    have Hbel := Lib.hid hbel
    by_cases hlt : j < l.length
    · obtain ⟨g, o, A2, c2, rfl, q0, q1, q2, hls⟩ := el_at Hk.out hbel hlt
      have HN := Lib.hid (fun p : BelowBy wr => spec_need l[j] f' _ p.v (hls p) (Hwt.out j hlt))
      have Hls := Lib.hid hls
      have hj0 : (0 : Int) ≤ (j : Int) := by omega
      have hjn : (j : Int) < (l.length : Int) := by omega
      by_cases hP : NeedP l[j]
      case neg =>
        have Hf := Lib.hid (Hno.out fun h2 => hP (h2.2 j hlt hlt).1)
        rw [yes_f hP] at HN
        clear hP Hmk Hno Hyes hgood hls Hls Hwt Hk
        generalize l[j] = x at q0 q1 q2 HN
        go_wp2_with fail
        refine wp_region_quiet_below (by kernel_rfl) (by kernel_rfl) ?_
        repeat (refine @wpQuiet_step _ _ _ _ _ _ _ ?_; intro K hK; go_simp; first | (refine hK _ ?_; clear hK K) | (apply Exists.intro; refine ⟨fun _ => ?_, hK _ ?_⟩; (first | (go_at_call 86; exact Calls.below_of (HN.out _))); clear hK K))
        refine wpQuiet_nil ?_
        intro _ hw'
        obtain ⟨p, rfl⟩ := hw'
        go_wp2_with fail
        go_ret
        exact ⟨by rw [Hf.out]; rfl, Hbel.out.trans (p.h.mono Hbel.out.size)⟩
      rw [yes_t hP] at HN
      by_cases hz : j = 0
      · have Hg := Lib.hid (goodN_next hgood.out hlt hP (fun m hm => by omega))
        have hn0 : ¬ (0 : Int) < (j : Int) := by omega
        have hn1 : ¬ 0 < j := by omega
        clear hP Hmk Hno Hyes hgood hls Hls Hwt Hk hz
        generalize l[j] = x at q0 q1 q2 HN
        go_wp2_with fail
        refine wp_region_quiet_below (by kernel_rfl) (by kernel_rfl) ?_
        repeat (refine @wpQuiet_step _ _ _ _ _ _ _ ?_; intro K hK; go_simp; first | (refine hK _ ?_; clear hK K) | (apply Exists.intro; refine ⟨fun _ => ?_, hK _ ?_⟩; (first | (go_at_call 86; exact Calls.below_of (HN.out _))); clear hK K))
        refine wpQuiet_nil ?_
        intro _ hw'
        obtain ⟨p, rfl⟩ := hw'
        go_wp2_with fail
        go_roundw
        case rel => exact ⟨j + 1, by omega, by go_num, Hg.out, Hbel.out.trans (p.h.mono Hbel.out.size)⟩
        case measure => simp [intOf]; omega
      obtain ⟨m, hm⟩ : ∃ m, m + 1 = j := ⟨j - 1, by omega⟩
      have hml : m < l.length := by omega
      obtain ⟨g', o', A3, c3, hA3, r0, r1, r2, hls2⟩ := el_at Hk.out hbel hml
      injection hA3 with hA3
      injection hA3 with e1 e2
      subst e1 e2
      have HL := Lib.hid (fun p : BelowBy wr => spec_less l[m] l[j] f' f' _ _ p.v (hls2 p) (hls p))
      have hmi : (j : Int) - 1 = (m : Int) := by omega
      have hwm : IntKind.i64.wrap (m : Int) = (m : Int) := IntWalk.i64_in _ (by omega)
      have hm0 : (0 : Int) ≤ (m : Int) := by omega
      have hm1 : (m : Int) < (l.length : Int) := by omega
      have hjp : (0 : Int) < (j : Int) := by omega
      have hjp1 : 0 < j := by omega
      cases hb : lessN l[m] l[j] with
      | true =>
        have Hg := Lib.hid (goodN_next hgood.out hlt hP (fun m' hm' => by obtain rfl : m' = m := by omega
                                                                          exact hb))
        rw [hb] at HL
        clear hP Hmk Hno Hyes hgood hls Hls hls2 Hwt Hk hz hm hb
        generalize l[j] = x at q0 q1 q2 HN HL
        generalize l[m] = y at r0 r1 r2 HL
        go_wp2_with fail
        refine wp_region_quiet_below (by kernel_rfl) (by kernel_rfl) ?_
        repeat (refine @wpQuiet_step _ _ _ _ _ _ _ ?_; intro K hK; go_simp; first | (refine hK _ ?_; clear hK K) | (apply Exists.intro; refine ⟨fun _ => ?_, hK _ ?_⟩; (first | (go_at_call 86; exact Calls.below_of (HN.out _)) | (go_at_call 42; exact Calls.below_of (HL.out _))); clear hK K))
        refine wpQuiet_nil ?_
        intro _ hw'
        obtain ⟨p, rfl⟩ := hw'
        go_wp2_with fail
        go_roundw
        case rel => exact ⟨j + 1, by omega, by go_num, Hg.out, Hbel.out.trans (p.h.mono Hbel.out.size)⟩
        case measure => simp [intOf]; omega
      | false =>
        have Hf := Lib.hid (Hno.out fun h2 => by rw [(h2.2 j hlt hlt).2 m hm] at hb; cases hb)
        rw [hb] at HL
        clear hP Hmk Hno Hyes hgood hls Hls hls2 Hwt Hk hz hm hb
        generalize l[j] = x at q0 q1 q2 HN HL
        generalize l[m] = y at r0 r1 r2 HL
        go_wp2_with fail
        refine wp_region_quiet_below (by kernel_rfl) (by kernel_rfl) ?_
        repeat (refine @wpQuiet_step _ _ _ _ _ _ _ ?_; intro K hK; go_simp; first | (refine hK _ ?_; clear hK K) | (apply Exists.intro; refine ⟨fun _ => ?_, hK _ ?_⟩; (first | (go_at_call 86; exact Calls.below_of (HN.out _)) | (go_at_call 42; exact Calls.below_of (HL.out _))); clear hK K))
        refine wpQuiet_nil ?_
        intro _ hw'
        obtain ⟨p, rfl⟩ := hw'
        go_wp2_with fail
        go_ret
        exact ⟨by rw [Hf.out]; rfl, Hbel.out.trans (p.h.mono Hbel.out.size)⟩
    · obtain rfl : j = l.length := by omega
      have Hf := Lib.hid (Hmk.out hgood.out)
      clear hgood hbel
      go_wp2_with fail
      go_ret
      exact ⟨by rw [Hf.out]; rfl, Hbel.out⟩
end Go.Proofs.YtdgedclpaplgoaaGreatDoor.need
