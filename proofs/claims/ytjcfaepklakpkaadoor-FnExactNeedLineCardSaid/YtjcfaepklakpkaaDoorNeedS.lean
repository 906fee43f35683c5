/- spec.NeedOk. -/
import Derived.Test.YtjcfaepklakpkaaDoorNeedM
import Derived.Test.YtjcfaepklakpkaaDoorWdS
import Derived.Test.YtjcfaepklakpkaaDoorInS
import Derived.Test.YtjcfaepklakpkaaDoorQuietB
import Derived.Laws.Cover1
namespace Go.Proofs.YtjcfaepklakpkaaDoor.need
open Go.ChangeShapes Go.WideShapes Go.ChangeAt Go.RowKit ty lab
set_option linter.unusedVariables false

set_option maxRecDepth 100000 in
set_option maxHeartbeats 16000000 in
theorem spec_need (x : Need) (f : Nat) (vs : List Value) (w : World) (h : LiesS w f vs x.row) (hw : x.wt ≤ 1048576) :
    Calls Tryd.prog 12 #[.agg vs.toArray] w fun e w' => e = .returned (.bool (yes (NeedP x))) ∧ Below w.heap.size w w' := by
  have hk1 := wt_key x
  have hv1 := wt_vals x
  have hvz : ∀ k (h : k < x.values.length), x.values[k].size ≤ 1048576 := fun k h => Nat.le_trans (wt_val h) hw
  obtain ⟨key, op, vals⟩ := x
  obtain ⟨A2, c2, rfl, hwf, k2, m2, l2⟩ := Need.opened h
  simp only [Need.Wf] at *
  obtain ⟨w0, w1⟩ := hwf
  have hop := i64_bd w1
  obtain ⟨A', c', hA', _, _, hr, _⟩ := Str.opened l2
  injection hA' with a1 _ a3
  subst a1 a3
  obtain ⟨R, hR⟩ : ∃ R, yes (NeedP ⟨key, op, vals⟩) = R := ⟨_, rfl⟩
  rw [hR]
  have Hno : Hid (¬ NeedP ⟨key, op, vals⟩ → R = false) := fun h => by rw [← hR]; exact yes_f h
  have Hyes : Hid (NeedP ⟨key, op, vals⟩ → R = true) := fun h => by rw [← hR]; exact yes_t h
  have HB := Lib.hid (Box.new 30 w [.string key, .int .i64 op, .slice A2 vals.length c2])
  have HK := Lib.hid (fun w => spec_key key w (by omega))
  have Hr := Lib.hid hr
  have Hvz := Lib.hid hvz
  have hvn : vals.length ≤ 1048576 := by omega
  unfold maxLen at m2
  have p0 := HB.out.cell (j := 0) rfl
  have p1 := HB.out.cell (j := 1) rfl
  have p2 := HB.out.cell (j := 2) rfl
  clear h l2 hr hvz hR w0 w1 hk1 hv1 hw
  by_cases hK : KeyP key
  case neg =>
    have Hf := Lib.hid (Hno.out fun h => hK h.key)
    rw [yes_f hK] at HK
    clear hK Hno Hyes Hr Hvz p1 p2
    go_enter Tryd.func12, Tryd.ntmps12
    go_wp2_with fail
    refine (HK.out _).mono ?_
    rintro e x1 ⟨rfl, n1, rfl⟩
    go_wp2_with fail
    go_ret
    exact ⟨by rw [Hf.out]; rfl, below_drewN HB.out.1 n1⟩
  rw [yes_t hK] at HK
  by_cases ho : 1 ≤ op ∧ op ≤ 4
  case neg =>
    have Hf := Lib.hid (Hno.out fun h => ho ⟨h.lo, h.hi⟩)
    have HI := Lib.hid (fun w => arith.in_no op 1 4 w (by omega))
    clear hK ho Hno Hyes Hr Hvz p2
    go_enter Tryd.func12, Tryd.ntmps12
    go_wp2_with fail
    refine (HK.out _).mono ?_
    rintro e x1 ⟨rfl, n1, rfl⟩
    go_wp2_with fail
    refine (HI.out _).mono ?_
    rintro e x2 ⟨rfl, rfl⟩
    go_wp2_with fail
    go_ret
    exact ⟨by rw [Hf.out]; rfl, below_drewN HB.out.1 n1⟩
  obtain ⟨ho1, ho4⟩ := ho
  have HI := Lib.hid (fun w => arith.in_yes op 1 4 w (by omega) (by omega))
  by_cases h3 : 3 ≤ op
  · by_cases hn : vals.length = 0
    · have Hf := Lib.hid (Hyes.out ⟨hK, ho1, ho4, fun _ => hn, fun h => by simp only at h; omega⟩)
      have en : ((vals.length : Int) == 0) = true := by rw [hn]; rfl
      clear hK Hno Hyes Hr Hvz hn
      go_enter Tryd.func12, Tryd.ntmps12
      go_wp2_with fail
      refine (HK.out _).mono ?_
      rintro e x1 ⟨rfl, n1, rfl⟩
      go_wp2_with fail
      refine (HI.out _).mono ?_
      rintro e x2 ⟨rfl, rfl⟩
      go_wp2_with fail
      go_ret
      exact ⟨by rw [Hf.out]; rfl, below_drewN HB.out.1 n1⟩
    · have Hf := Lib.hid (Hno.out fun h => hn (h.none h3))
      have en : ((vals.length : Int) == 0) = false := by rw [beq_eq_false_iff_ne]; omega
      clear hK Hno Hyes Hr Hvz hn
      go_enter Tryd.func12, Tryd.ntmps12
      go_wp2_with fail
      refine (HK.out _).mono ?_
      rintro e x1 ⟨rfl, n1, rfl⟩
      go_wp2_with fail
      refine (HI.out _).mono ?_
      rintro e x2 ⟨rfl, rfl⟩
      go_wp2_with fail
      go_ret
      exact ⟨by rw [Hf.out]; rfl, below_drewN HB.out.1 n1⟩
  by_cases hn : 1 ≤ vals.length ∧ vals.length ≤ 4
  case neg =>
    have Hf := Lib.hid (Hno.out fun h => by have := h.some (by simp only; omega); exact hn ⟨this.1, this.2.1⟩)
    have HI2 := Lib.hid (fun w => arith.in_no (vals.length : Int) 1 4 w (by omega))
    clear hK hn Hno Hyes Hr Hvz
    go_enter Tryd.func12, Tryd.ntmps12
    go_wp2_with fail
    refine (HK.out _).mono ?_
    rintro e x1 ⟨rfl, n1, rfl⟩
    go_wp2_with fail
    refine (HI.out _).mono ?_
    rintro e x2 ⟨rfl, rfl⟩
    go_wp2_with fail
    refine (HI2.out _).mono ?_
    rintro e x2 ⟨rfl, rfl⟩
    go_wp2_with fail
    go_ret
    exact ⟨by rw [Hf.out]; rfl, below_drewN HB.out.1 n1⟩
  obtain ⟨hn1, hn4⟩ := hn
  have HI2 := Lib.hid (fun w => arith.in_yes (vals.length : Int) 1 4 w (by omega) (by omega))
  have Hmk := Lib.hid (fun (hg : GoodV vals vals.length) => Hyes.out ⟨hK, ho1, ho4, fun h => by simp only at h; omega, fun _ => ⟨hn1, hn4, hg⟩⟩)
  have Hno2 := Lib.hid (fun (hg : ¬ GoodV vals vals.length) => Hno.out fun h => hg (h.some (by simp only; omega)).2.2)
  clear hK Hno Hyes
  go_enter Tryd.func12, Tryd.ntmps12
  go_wp2_with fail
  refine (HK.out _).mono ?_
  rintro e x1 ⟨rfl, n1, hx1⟩
  have B1 := Lib.hid (show Box 30 w [.string key, .int .i64 op, .slice A2 vals.length c2] x1 by rw [hx1]; exact HB.out.drewN n1)
  have p1 := B1.out.cell (j := 1) rfl
  have p2 := B1.out.cell (j := 2) rfl
  clear hx1 HK
  go_wp2_with fail
  refine (HI.out _).mono ?_
  rintro e x2 ⟨rfl, rfl⟩
  go_wp2_with fail
  refine (HI2.out _).mono ?_
  rintro e x2 ⟨rfl, rfl⟩
  clear HI HI2 HB p0
  go_wp2_with fail
  go_loopw [3] (fun i wr => ∃ j : Nat, j ≤ vals.length ∧ i = .int .i64 j ∧ Hid (GoodV vals j) ∧ Box 30 w [.string key, .int .i64 op, .slice A2 vals.length c2] wr) (fun i _ => vals.length - (intOf i).toNat)
  case atStart => exact ⟨0, Nat.zero_le _, rfl, fun i hi hj => by omega, B1.out⟩
  case round =>
    clear B1 p1 p2
    obtain ⟨j, hj, rfl, hgood, hbox⟩ := hrel
    have p2 := hbox.cell (j := 2) rfl
    have Hbox := Lib.hid hbox
    by_cases hlt : j < vals.length
    · have hbw := hbox.1
      have hbl : w.heap.size < wr.heap.size := heap_lt hbox.2
      obtain ⟨g, o, rfl, hg, hc0⟩ := (Hr.out.below hbw).2 (by omega)
      have q0 : ∀ p : BelowBy wr, p.v.cell? ⟨g, o + j, none⟩ = some (.string vals[j]) := fun p => p.cell hg (hc0 j hlt _ (scells_get vals j hlt))
      have P2 : ∀ p : BelowBy wr, p.v.cell? ⟨w.heap.size, 2, none⟩ = some (.slice (some ⟨g, o, none⟩) vals.length c2) := fun p => p.cell hbl p2
      have HV := Lib.hid (fun w => drew_below' (spec_val vals[j] w (Hvz.out j hlt)))
      have hj0 : (0 : Int) ≤ (j : Int) := by omega
      have hjn : (j : Int) < (vals.length : Int) := by omega
      have hwj : IntKind.i64.wrap (j : Int) = (j : Int) := IntWalk.i64_in _ (by omega)
      by_cases hV : ValP vals[j]
      case neg =>
        have Hf := Lib.hid (Hno2.out fun h2 => hV (h2 j hlt hlt).1)
        rw [yes_f hV] at HV
        clear hV Hmk Hno2 hgood hc0 hbox hbw hg Hr Hvz
        generalize vals[j] = y at q0 HV
        go_wp2_with fail
        refine wp_region_quiet_below (by kernel_rfl) (by kernel_rfl) ?_
        repeat (refine @wpQuiet_step _ _ _ _ _ _ _ ?_; intro K hK; go_simp; first | (refine hK _ ?_; clear hK K) | (apply Exists.intro; refine ⟨fun _ => ?_, hK _ ?_⟩; (first | (go_at_call 37; exact Calls.below_of (HV.out _))); clear hK K))
        refine wpQuiet_nil ?_
        intro _ hw'
        obtain ⟨p, rfl⟩ := hw'
        go_wp2_with fail
        go_ret
        exact ⟨by rw [Hf.out]; rfl, (Hbox.out.below p.h).1⟩
      rw [yes_t hV] at HV
      by_cases hz : j = 0
      · have Hg := Lib.hid (goodV_next hgood.out hlt hV (fun m hm => by omega))
        have hn0 : ¬ (0 : Int) < (j : Int) := by omega
        have hn1' : ¬ 0 < j := by omega
        clear hV Hmk Hno2 hgood hc0 hbox hbw hg Hr Hvz hz
        generalize vals[j] = y at q0 HV
        go_wp2_with fail
        refine wp_region_quiet_below (by kernel_rfl) (by kernel_rfl) ?_
        repeat (refine @wpQuiet_step _ _ _ _ _ _ _ ?_; intro K hK; go_simp; first | (refine hK _ ?_; clear hK K) | (apply Exists.intro; refine ⟨fun _ => ?_, hK _ ?_⟩; (first | (go_at_call 37; exact Calls.below_of (HV.out _))); clear hK K))
        refine wpQuiet_nil ?_
        intro _ hw'
        obtain ⟨p, rfl⟩ := hw'
        go_wp2_with fail
        go_roundw
        case rel => exact ⟨j + 1, by omega, by go_num, Hg.out, Hbox.out.below p.h⟩
        case measure => simp [intOf]; omega
      obtain ⟨m, hm⟩ : ∃ m, m + 1 = j := ⟨j - 1, by omega⟩
      have hml : m < vals.length := by omega
      have q1 : ∀ p : BelowBy wr, p.v.cell? ⟨g, o + m, none⟩ = some (.string vals[m]) := fun p => p.cell hg (hc0 m hml _ (scells_get vals m hml))
      have hmi : (j : Int) - 1 = (m : Int) := by omega
      have hwm : IntKind.i64.wrap (m : Int) = (m : Int) := IntWalk.i64_in _ (by omega)
      have hm0 : (0 : Int) ≤ (m : Int) := by omega
      have hm1 : (m : Int) < (vals.length : Int) := by omega
      have hjp : (0 : Int) < (j : Int) := by omega
      have hjp1 : 0 < j := by omega
      cases hb : lessB vals[m] vals[j] with
      | true =>
        have Hg := Lib.hid (goodV_next hgood.out hlt hV (fun m' hm' => by obtain rfl : m' = m := by omega
                                                                          exact hb))
        unfold lessB at hb
        clear hV Hmk Hno2 hgood hc0 hbox hbw hg Hr Hvz hz hm
        generalize vals[j] = y at q0 HV hb
        generalize vals[m] = z at q1 hb
        go_wp2_with fail
        refine wp_region_quiet_below (by kernel_rfl) (by kernel_rfl) ?_
        repeat (refine @wpQuiet_step _ _ _ _ _ _ _ ?_; intro K hK; go_simp; first | (refine hK _ ?_; clear hK K) | (apply Exists.intro; refine ⟨fun _ => ?_, hK _ ?_⟩; (first | (go_at_call 37; exact Calls.below_of (HV.out _))); clear hK K))
        refine wpQuiet_nil ?_
        intro _ hw'
        obtain ⟨p, rfl⟩ := hw'
        go_wp2_with fail
        go_roundw
        case rel => exact ⟨j + 1, by omega, by go_num, Hg.out, Hbox.out.below p.h⟩
        case measure => simp [intOf]; omega
      | false =>
        have Hf := Lib.hid (Hno2.out fun h2 => by rw [(h2 j hlt hlt).2 m hm] at hb; cases hb)
        unfold lessB at hb
        clear hV Hmk Hno2 hgood hc0 hbox hbw hg Hr Hvz hz hm
        generalize vals[j] = y at q0 HV hb
        generalize vals[m] = z at q1 hb
        go_wp2_with fail
        refine wp_region_quiet_below (by kernel_rfl) (by kernel_rfl) ?_
        repeat (refine @wpQuiet_step _ _ _ _ _ _ _ ?_; intro K hK; go_simp; first | (refine hK _ ?_; clear hK K) | (apply Exists.intro; refine ⟨fun _ => ?_, hK _ ?_⟩; (first | (go_at_call 37; exact Calls.below_of (HV.out _))); clear hK K))
        refine wpQuiet_nil ?_
        intro _ hw'
        obtain ⟨p, rfl⟩ := hw'
        go_wp2_with fail
        go_ret
        exact ⟨by rw [Hf.out]; rfl, (Hbox.out.below p.h).1⟩
    · obtain rfl : j = vals.length := by omega
      have Hf := Lib.hid (Hmk.out hgood.out)
      clear hgood hbox
      go_wp2_with fail
      go_ret
      exact ⟨by rw [Hf.out]; rfl, Hbox.out.1⟩
end Go.Proofs.YtjcfaepklakpkaaDoor.need
