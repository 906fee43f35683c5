/- Merged: NeedS LessS ElNeed SelS FlTolerance TolM TolS. -/
import Derived.Test.YtcfbkfmkjggcdaaGreatDoorGA5
import Derived.Test.YtcfbkfmkjggcdaaGreatDoorGA1
import Derived.Laws.Cover1
import Derived.Test.YtcfbkfmkjggcdaaGreatDoorRows
import Derived.ProofKit
import Derived.OpenShut
import Derived.Test.YtcfbkfmkjggcdaaGreatDoorGA6
import Derived.Test.YtcfbkfmkjggcdaaGreatDoorGA3
namespace Go.Proofs.YtcfbkfmkjggcdaaGreatDoor.need
open Go.ChangeShapes Go.WideShapes Go.ChangeAt Go.RowKit ty lab
set_option linter.unusedVariables false

set_option maxRecDepth 100000 in
set_option maxHeartbeats 16000000 in
theorem spec_need (x : Need) (f : Nat) (vs : List Value) (w : World) (h : LiesS w f vs x.row) (hw : x.wt ≤ 1048576) :
    Calls Tryz.prog 119 #[.agg vs.toArray] w fun e w' => e = .returned (.bool (yes (NeedP x))) ∧ Below w.heap.size w w' := by
  have hk1 := wt_key x
  have hv1 := wt_vals x
  have hvz : ∀ k (h : k < x.values.length), x.values[k].size ≤ 1048576 := fun k h => Nat.le_trans (wt_val h) hw
  obtain ⟨key, op, vals⟩ := x
  obtain ⟨A2, c2, rfl, hwf, k2, m2, l2⟩ := Need.opened h
  simp only [Need.Wf] at *
  obtain ⟨w0, w1⟩ := hwf
  have hop := i64_bd w1
  obtain ⟨A', c', hA', _, _, hr, _⟩ := Str.opened l2
  injection hA' with a1 _ a3
  subst a1 a3
  obtain ⟨R, hR⟩ : ∃ R, yes (NeedP ⟨key, op, vals⟩) = R := ⟨_, rfl⟩
  rw [hR]
  have Hno : Hid (¬ NeedP ⟨key, op, vals⟩ → R = false) := fun h => by rw [← hR]; exact yes_f h
  have Hyes : Hid (NeedP ⟨key, op, vals⟩ → R = true) := fun h => by rw [← hR]; exact yes_t h
  have HB := Lib.hid (Box.new 69 w [.string key, .int .i64 op, .slice A2 vals.length c2])
  have HK := Lib.hid (fun w => spec_key key w (by omega))
  have Hr := Lib.hid hr
  have Hvz := Lib.hid hvz
  have hvn : vals.length ≤ 1048576 := by omega
  unfold maxLen at m2
  have p0 := HB.out.cell (j := 0) rfl
  have p1 := HB.out.cell (j := 1) rfl
  have p2 := HB.out.cell (j := 2) rfl
  clear h l2 hr hvz hR w0 w1 hk1 hv1 hw
  by_cases hK : KeyP key
  case neg =>
    have Hf := Lib.hid (Hno.out fun h => hK h.key)
    rw [yes_f hK] at HK
    clear hK Hno Hyes Hr Hvz p1 p2
    go_enter Tryz.func119, Tryz.ntmps119
    go_wp2_with fail
    refine (HK.out _).mono ?_
    rintro e x1 ⟨rfl, n1, rfl⟩
    go_wp2_with fail
    go_ret
    exact ⟨by rw [Hf.out]; rfl, below_drewN HB.out.1 n1⟩
  rw [yes_t hK] at HK
  by_cases ho : 1 ≤ op ∧ op ≤ 4
  case neg =>
    have Hf := Lib.hid (Hno.out fun h => ho ⟨h.lo, h.hi⟩)
    have HI := Lib.hid (fun w => arith.in_no op 1 4 w (by omega))
    clear hK ho Hno Hyes Hr Hvz p2
    go_enter Tryz.func119, Tryz.ntmps119
    go_wp2_with fail
    refine (HK.out _).mono ?_
    rintro e x1 ⟨rfl, n1, rfl⟩
    go_wp2_with fail
    refine (HI.out _).mono ?_
    rintro e x2 ⟨rfl, rfl⟩
    go_wp2_with fail
    go_ret
    exact ⟨by rw [Hf.out]; rfl, below_drewN HB.out.1 n1⟩
  obtain ⟨ho1, ho4⟩ := ho
  have HI := Lib.hid (fun w => arith.in_yes op 1 4 w (by omega) (by omega))
  by_cases h3 : 3 ≤ op
  · by_cases hn : vals.length = 0
    · have Hf := Lib.hid (Hyes.out ⟨hK, ho1, ho4, fun _ => hn, fun h => by simp only at h; omega⟩)
      have en : ((vals.length : Int) == 0) = true := by rw [hn]; rfl
      clear hK Hno Hyes Hr Hvz hn
      go_enter Tryz.func119, Tryz.ntmps119
      go_wp2_with fail
      refine (HK.out _).mono ?_
      rintro e x1 ⟨rfl, n1, rfl⟩
      go_wp2_with fail
      refine (HI.out _).mono ?_
      rintro e x2 ⟨rfl, rfl⟩
      go_wp2_with fail
      go_ret
      exact ⟨by rw [Hf.out]; rfl, below_drewN HB.out.1 n1⟩
    · have Hf := Lib.hid (Hno.out fun h => hn (h.none h3))
      have en : ((vals.length : Int) == 0) = false := by rw [beq_eq_false_iff_ne]; omega
      clear hK Hno Hyes Hr Hvz hn
      go_enter Tryz.func119, Tryz.ntmps119
      go_wp2_with fail
      refine (HK.out _).mono ?_
      rintro e x1 ⟨rfl, n1, rfl⟩
      go_wp2_with fail
      refine (HI.out _).mono ?_
      rintro e x2 ⟨rfl, rfl⟩
      go_wp2_with fail
      go_ret
      exact ⟨by rw [Hf.out]; rfl, below_drewN HB.out.1 n1⟩
  by_cases hn : 1 ≤ vals.length ∧ vals.length ≤ 4
  case neg =>
    have Hf := Lib.hid (Hno.out fun h => by have := h.some (by simp only; omega); exact hn ⟨this.1, this.2.1⟩)
    have HI2 := Lib.hid (fun w => arith.in_no (vals.length : Int) 1 4 w (by omega))
    clear hK hn Hno Hyes Hr Hvz
    go_enter Tryz.func119, Tryz.ntmps119
    go_wp2_with fail
    refine (HK.out _).mono ?_
    rintro e x1 ⟨rfl, n1, rfl⟩
    go_wp2_with fail
    refine (HI.out _).mono ?_
    rintro e x2 ⟨rfl, rfl⟩
    go_wp2_with fail
    refine (HI2.out _).mono ?_
    rintro e x2 ⟨rfl, rfl⟩
    go_wp2_with fail
    go_ret
    exact ⟨by rw [Hf.out]; rfl, below_drewN HB.out.1 n1⟩
  obtain ⟨hn1, hn4⟩ := hn
  have HI2 := Lib.hid (fun w => arith.in_yes (vals.length : Int) 1 4 w (by omega) (by omega))
  have Hmk := Lib.hid (fun (hg : GoodV vals vals.length) => Hyes.out ⟨hK, ho1, ho4, fun h => by simp only at h; omega, fun _ => ⟨hn1, hn4, hg⟩⟩)
  have Hno2 := Lib.hid (fun (hg : ¬ GoodV vals vals.length) => Hno.out fun h => hg (h.some (by simp only; omega)).2.2)
  clear hK Hno Hyes
  go_enter Tryz.func119, Tryz.ntmps119
  go_wp2_with fail
  refine (HK.out _).mono ?_
  rintro e x1 ⟨rfl, n1, hx1⟩
  have B1 := Lib.hid (show Box 69 w [.string key, .int .i64 op, .slice A2 vals.length c2] x1 by rw [hx1]; exact HB.out.drewN n1)
  have p1 := B1.out.cell (j := 1) rfl
  have p2 := B1.out.cell (j := 2) rfl
  clear hx1 HK
  go_wp2_with fail
  refine (HI.out _).mono ?_
  rintro e x2 ⟨rfl, rfl⟩
  go_wp2_with fail
  refine (HI2.out _).mono ?_
  rintro e x2 ⟨rfl, rfl⟩
  clear HI HI2 HB p0
  go_wp2_with fail
  go_loopw [3] (fun i wr => ∃ j : Nat, j ≤ vals.length ∧ i = .int .i64 j ∧ Hid (GoodV vals j) ∧ Box 69 w [.string key, .int .i64 op, .slice A2 vals.length c2] wr) (fun i _ => vals.length - (intOf i).toNat)
  case atStart => exact ⟨0, Nat.zero_le _, rfl, fun i hi hj => by omega, B1.out⟩
  case round =>
    clear B1 p1 p2
    obtain ⟨j, hj, rfl, hgood, hbox⟩ := hrel
    have p2 := hbox.cell (j := 2) rfl
    have Hbox := Lib.hid hbox
    by_cases hlt : j < vals.length
    · have hbw := hbox.1
      have hbl : w.heap.size < wr.heap.size := heap_lt hbox.2
      obtain ⟨g, o, rfl, hg, hc0⟩ := (Hr.out.below hbw).2 (by omega)
      have q0 : ∀ p : BelowBy wr, p.v.cell? ⟨g, o + j, none⟩ = some (.string vals[j]) := fun p => p.cell hg (hc0 j hlt _ (scells_get vals j hlt))
      have P2 : ∀ p : BelowBy wr, p.v.cell? ⟨w.heap.size, 2, none⟩ = some (.slice (some ⟨g, o, none⟩) vals.length c2) := fun p => p.cell hbl p2
      have HV := Lib.hid (fun w => drew_below' (spec_val vals[j] w (Hvz.out j hlt)))
      have hj0 : (0 : Int) ≤ (j : Int) := by omega
      have hjn : (j : Int) < (vals.length : Int) := by omega
      have hwj : IntKind.i64.wrap (j : Int) = (j : Int) := IntWalk.i64_in _ (by omega)
      by_cases hV : ValP vals[j]
      case neg =>
        have Hf := Lib.hid (Hno2.out fun h2 => hV (h2 j hlt hlt).1)
        rw [yes_f hV] at HV
        clear hV Hmk Hno2 hgood hc0 hbox hbw hg Hr Hvz
        generalize vals[j] = y at q0 HV
        go_wp2_with fail
        refine wp_region_quiet_below (by kernel_rfl) (by kernel_rfl) ?_
        repeat (refine @wpQuiet_step _ _ _ _ _ _ _ ?_; intro K hK; go_simp; first | (refine hK _ ?_; clear hK K) | (apply Exists.intro; refine ⟨fun _ => ?_, hK _ ?_⟩; (first | (go_at_call 118; exact Calls.below_of (HV.out _))); clear hK K))
        refine wpQuiet_nil ?_
        intro _ hw'
        obtain ⟨p, rfl⟩ := hw'
        go_wp2_with fail
        go_ret
        exact ⟨by rw [Hf.out]; rfl, (Hbox.out.below p.h).1⟩
      rw [yes_t hV] at HV
      by_cases hz : j = 0
      · have Hg := Lib.hid (goodV_next hgood.out hlt hV (fun m hm => by omega))
        have hn0 : ¬ (0 : Int) < (j : Int) := by omega
        have hn1' : ¬ 0 < j := by omega
        clear hV Hmk Hno2 hgood hc0 hbox hbw hg Hr Hvz hz
        generalize vals[j] = y at q0 HV
        go_wp2_with fail
        refine wp_region_quiet_below (by kernel_rfl) (by kernel_rfl) ?_
        repeat (refine @wpQuiet_step _ _ _ _ _ _ _ ?_; intro K hK; go_simp; first | (refine hK _ ?_; clear hK K) | (apply Exists.intro; refine ⟨fun _ => ?_, hK _ ?_⟩; (first | (go_at_call 118; exact Calls.below_of (HV.out _))); clear hK K))
        refine wpQuiet_nil ?_
        intro _ hw'
        obtain ⟨p, rfl⟩ := hw'
        go_wp2_with fail
        go_roundw
        case rel => exact ⟨j + 1, by omega, by go_num, Hg.out, Hbox.out.below p.h⟩
        case measure => simp [intOf]; omega
      obtain ⟨m, hm⟩ : ∃ m, m + 1 = j := ⟨j - 1, by omega⟩
      have hml : m < vals.length := by omega
      have q1 : ∀ p : BelowBy wr, p.v.cell? ⟨g, o + m, none⟩ = some (.string vals[m]) := fun p => p.cell hg (hc0 m hml _ (scells_get vals m hml))
      have hmi : (j : Int) - 1 = (m : Int) := by omega
      have hwm : IntKind.i64.wrap (m : Int) = (m : Int) := IntWalk.i64_in _ (by omega)
      have hm0 : (0 : Int) ≤ (m : Int) := by omega
      have hm1 : (m : Int) < (vals.length : Int) := by omega
      have hjp : (0 : Int) < (j : Int) := by omega
      have hjp1 : 0 < j := by omega
      cases hb : lessB vals[m] vals[j] with
      | true =>
        have Hg := Lib.hid (goodV_next hgood.out hlt hV (fun m' hm' => by obtain rfl : m' = m := by omega
                                                                          exact hb))
        unfold lessB at hb
        clear hV Hmk Hno2 hgood hc0 hbox hbw hg Hr Hvz hz hm
        generalize vals[j] = y at q0 HV hb
        generalize vals[m] = z at q1 hb
        go_wp2_with fail
        refine wp_region_quiet_below (by kernel_rfl) (by kernel_rfl) ?_
        repeat (refine @wpQuiet_step _ _ _ _ _ _ _ ?_; intro K hK; go_simp; first | (refine hK _ ?_; clear hK K) | (apply Exists.intro; refine ⟨fun _ => ?_, hK _ ?_⟩; (first | (go_at_call 118; exact Calls.below_of (HV.out _))); clear hK K))
        refine wpQuiet_nil ?_
        intro _ hw'
        obtain ⟨p, rfl⟩ := hw'
        go_wp2_with fail
        go_roundw
        case rel => exact ⟨j + 1, by omega, by go_num, Hg.out, Hbox.out.below p.h⟩
        case measure => simp [intOf]; omega
      | false =>
        have Hf := Lib.hid (Hno2.out fun h2 => by rw [(h2 j hlt hlt).2 m hm] at hb; cases hb)
        unfold lessB at hb
        clear hV Hmk Hno2 hgood hc0 hbox hbw hg Hr Hvz hz hm
        generalize vals[j] = y at q0 HV hb
        generalize vals[m] = z at q1 hb
        go_wp2_with fail
        refine wp_region_quiet_below (by kernel_rfl) (by kernel_rfl) ?_
        repeat (refine @wpQuiet_step _ _ _ _ _ _ _ ?_; intro K hK; go_simp; first | (refine hK _ ?_; clear hK K) | (apply Exists.intro; refine ⟨fun _ => ?_, hK _ ?_⟩; (first | (go_at_call 118; exact Calls.below_of (HV.out _))); clear hK K))
        refine wpQuiet_nil ?_
        intro _ hw'
        obtain ⟨p, rfl⟩ := hw'
        go_wp2_with fail
        go_ret
        exact ⟨by rw [Hf.out]; rfl, (Hbox.out.below p.h).1⟩
    · obtain rfl : j = vals.length := by omega
      have Hf := Lib.hid (Hmk.out hgood.out)
      clear hgood hbox
      go_wp2_with fail
      go_ret
      exact ⟨by rw [Hf.out]; rfl, Hbox.out.1⟩
end Go.Proofs.YtcfbkfmkjggcdaaGreatDoor.need
namespace Go.Proofs.YtcfbkfmkjggcdaaGreatDoor.need
open Go.ChangeShapes Go.WideShapes Go.ChangeAt Go.RowKit ty lab
set_option linter.unusedVariables false

theorem fin_less (a b : Nat) : Ending.returned (.bool (decide ((a : Int) < (b : Int)))) = .returned (.bool (decide (a < b))) := by
  congr 2
  rw [decide_eq_decide]
  omega
theorem lessN_key {a b : Need} (h : ¬ a.key = b.key) : lessN a b = lessB a.key b.key := by unfold lessN; rw [if_neg h]
theorem lessN_op {a b : Need} (h : a.key = b.key) (h2 : ¬ a.op = b.op) : lessN a b = decide (a.op < b.op) := by unfold lessN; rw [if_pos h, if_neg h2]
theorem lessN_vals {a b : Need} (h : a.key = b.key) (h2 : a.op = b.op) : lessN a b = lessV a.values b.values := by unfold lessN; rw [if_pos h, if_pos h2]
set_option maxRecDepth 100000 in
set_option maxHeartbeats 16000000 in
theorem spec_less (x y : Need) (f1 f2 : Nat) (us vs : List Value) (w : World) (h1 : LiesS w f1 us x.row) (h2 : LiesS w f2 vs y.row) :
    Calls Tryz.prog 112 #[.agg us.toArray, .agg vs.toArray] w fun e w' => e = .returned (.bool (lessN x y)) ∧ Below w.heap.size w w' := by
  obtain ⟨R, hR⟩ : ∃ R, lessN x y = R := ⟨_, rfl⟩
  rw [hR]
  have Hk : Hid (¬ x.key = y.key → R = lessB x.key y.key) := fun h => by rw [← hR]; exact lessN_key h
  have Ho : Hid (x.key = y.key → ¬ x.op = y.op → R = decide (x.op < y.op)) := fun h h2 => by rw [← hR]; exact lessN_op h h2
  have Hv : Hid (x.key = y.key → x.op = y.op → R = lessV x.values y.values) := fun h h2 => by rw [← hR]; exact lessN_vals h h2
  obtain ⟨k1, o1, l1⟩ := x
  obtain ⟨k2, o2, l2⟩ := y
  obtain ⟨A1, c1, rfl, _, n1, m1, r1⟩ := Need.opened h1
  obtain ⟨A2, c2, rfl, _, n2, m2, r2⟩ := Need.opened h2
  simp only at *
  obtain ⟨A1', c1', hA1, _, _, r1', _⟩ := Str.opened r1
  injection hA1 with a1 _ a3
  subst a1 a3
  obtain ⟨A2', c2', hA2, _, _, r2', _⟩ := Str.opened r2
  injection hA2 with a1 _ a3
  subst a1 a3
  unfold maxLen at m1 m2
  have HB := Lib.hid (Box2.new 69 w [.string k1, .int .i64 o1, .slice A1 l1.length c1] [.string k2, .int .i64 o2, .slice A2 l2.length c2])
  have R1 := Lib.hid r1'
  have R2 := Lib.hid r2'
  have p0 := HB.out.cell1 (j := 0) rfl
  have p1 := HB.out.cell1 (j := 1) rfl
  have p2 := HB.out.cell1 (j := 2) rfl
  have q0 := HB.out.cell2 (j := 0) rfl
  have q1 := HB.out.cell2 (j := 1) rfl
  have q2 := HB.out.cell2 (j := 2) rfl
  clear h1 h2 r1 r2 r1' r2' hR
  by_cases hk : k1 = k2
  case neg =>
    have Hf := Lib.hid (Hk.out hk)
    have hs := same_no hk
    unfold lessB at Hf
    clear hk Hk Ho Hv R1 R2
    go_enter Tryz.func112, Tryz.ntmps112
    go_wp2_with fail
    go_ret
    exact ⟨by rw [Hf.out]; rfl, HB.out.1.1⟩
  have hs := same_yes hk
  by_cases ho : o1 = o2
  case neg =>
    have Hf := Lib.hid (Ho.out hk ho)
    have hn : (o1 != o2) = true := bne_iff_ne.2 ho
    clear hk ho Hk Ho Hv R1 R2
    go_enter Tryz.func112, Tryz.ntmps112
    go_wp2_with fail
    go_ret
    exact ⟨by rw [Hf.out]; rfl, HB.out.1.1⟩
  have hn : (o1 != o2) = false := by simp [ho]
  have Hf := Lib.hid (Hv.out hk ho)
  clear hk ho Hk Ho Hv
  go_enter Tryz.func112, Tryz.ntmps112
  go_wp2_with fail
  clear p0 p1 p2 q0 q1 q2 hs hn
  go_loopw [5] (fun i wr => ∃ j : Nat, j ≤ l1.length ∧ j ≤ l2.length ∧ i = .int .i64 j ∧ Hid (∀ q (_ : q < j) (h1 : q < l1.length) (h2 : q < l2.length), l1[q] = l2[q]) ∧ Box2 69 w [.string k1, .int .i64 o1, .slice A1 l1.length c1] [.string k2, .int .i64 o2, .slice A2 l2.length c2] wr) (fun i _ => l1.length - (intOf i).toNat)
  case atStart => exact ⟨0, Nat.zero_le _, Nat.zero_le _, rfl, fun q hq => by omega, HB.out⟩
  case round =>
    clear HB
    obtain ⟨j, hj1, hj2, rfl, hall, hbox⟩ := hrel
    have p2 := hbox.cell1 (j := 2) rfl
    have q2 := hbox.cell2 (j := 2) rfl
    have Hbox := Lib.hid hbox
    by_cases hlt : j < l1.length ∧ j < l2.length
    · obtain ⟨hlt1, hlt2⟩ := hlt
      have hbw := hbox.1.1
      obtain ⟨g, o, rfl, hg, hc⟩ := (R1.out.below hbw).2 (by omega)
      obtain ⟨g', o', rfl, hg', hc'⟩ := (R2.out.below hbw).2 (by omega)
      have b1 : w.heap.size < wr.heap.size := heap_lt hbox.1.2
      have b2 : w.heap.size + 1 < wr.heap.size := heap_lt hbox.2
      have e1 : ∀ p : BelowBy wr, p.v.cell? ⟨g, o + j, none⟩ = some (.string l1[j]) := fun p => p.cell hg (hc j hlt1 _ (scells_get l1 j hlt1))
      have e2 : ∀ p : BelowBy wr, p.v.cell? ⟨g', o' + j, none⟩ = some (.string l2[j]) := fun p => p.cell hg' (hc' j hlt2 _ (scells_get l2 j hlt2))
      have P2 : ∀ p : BelowBy wr, p.v.cell? ⟨w.heap.size, 2, none⟩ = some (.slice (some ⟨g, o, none⟩) l1.length c1) := fun p => p.cell b1 p2
      have Q2 : ∀ p : BelowBy wr, p.v.cell? ⟨w.heap.size + 1, 2, none⟩ = some (.slice (some ⟨g', o', none⟩) l2.length c2) := fun p => p.cell b2 q2
      have hj0 : (0 : Int) ≤ (j : Int) := by omega
      have hjn1 : (j : Int) < (l1.length : Int) := by omega
      have hjn2 : (j : Int) < (l2.length : Int) := by omega
      by_cases he : l1[j] = l2[j]
      · have hs := same_yes he
        have Hnx : Hid (∀ q (_ : q < j + 1) (h1 : q < l1.length) (h2 : q < l2.length), l1[q] = l2[q]) := fun q hq h1 h2 => by
          by_cases e : q = j
          · subst e; exact he
          · exact hall.out q (by omega) h1 h2
        clear he hall hc hc' hbox hbw hg hg'
        generalize l1[j] = a at e1 hs
        generalize l2[j] = b at e2 hs
        go_wp2_with fail
        refine wp_region_quiet_below (by kernel_rfl) (by kernel_rfl) ?_
        repeat (refine @wpQuiet_step _ _ _ _ _ _ _ ?_; intro K hK; go_simp; refine hK _ ?_; clear hK K)
        refine wpQuiet_nil ?_
        intro _ hw'
        obtain ⟨p, rfl⟩ := hw'
        go_wp2_with fail
        go_roundw
        case rel => exact ⟨j + 1, by omega, by omega, by go_num, Hnx.out, Hbox.out.below p.h⟩
        case measure => simp [intOf]; omega
      · have hs := same_no he
        have Hf2 := Lib.hid (Hf.out.trans (lessV_at hlt1 hlt2 (fun q hq => hall.out q hq (by omega) (by omega)) he))
        unfold lessB at Hf2
        clear he hall hc hc' hbox hbw hg hg' Hf
        generalize l1[j] = a at e1 hs Hf2
        generalize l2[j] = b at e2 hs Hf2
        go_wp2_with fail
        refine wp_region_quiet_below (by kernel_rfl) (by kernel_rfl) ?_
        repeat (refine @wpQuiet_step _ _ _ _ _ _ _ ?_; intro K hK; go_simp; refine hK _ ?_; clear hK K)
        refine wpQuiet_nil ?_
        intro _ hw'
        obtain ⟨p, rfl⟩ := hw'
        have E1 : ∀ p' : BelowBy p.v, p'.v.cell? ⟨g, o + j, none⟩ = some (.string a) := fun p' => e1 ⟨p'.v, p.h.trans (p'.h.mono p.h.size)⟩
        have E2 : ∀ p' : BelowBy p.v, p'.v.cell? ⟨g', o' + j, none⟩ = some (.string b) := fun p' => e2 ⟨p'.v, p.h.trans (p'.h.mono p.h.size)⟩
        have P3 : ∀ p' : BelowBy p.v, p'.v.cell? ⟨w.heap.size, 2, none⟩ = some (.slice (some ⟨g, o, none⟩) l1.length c1) := fun p' => P2 ⟨p'.v, p.h.trans (p'.h.mono p.h.size)⟩
        have Q3 : ∀ p' : BelowBy p.v, p'.v.cell? ⟨w.heap.size + 1, 2, none⟩ = some (.slice (some ⟨g', o', none⟩) l2.length c2) := fun p' => Q2 ⟨p'.v, p.h.trans (p'.h.mono p.h.size)⟩
        have Hb3 := Lib.hid (Hbox.out.below p.h)
        clear e1 e2 P2 Q2 p2 q2
        generalize p.v = wp at E1 E2 P3 Q3 Hb3 ⊢
        go_wp2_with fail
        refine wp_region_quiet_below (by kernel_rfl) (by kernel_rfl) ?_
        repeat (refine @wpQuiet_step _ _ _ _ _ _ _ ?_; intro K hK; go_simp; refine hK _ ?_; clear hK K)
        refine wpQuiet_nil ?_
        intro _ hw'
        obtain ⟨p', rfl⟩ := hw'
        go_wp2_with fail
        go_ret
        exact ⟨by rw [Hf2.out]; rfl, (Hb3.out.below p'.h).1.1⟩
    · have Hf2 := Lib.hid (Hf.out.trans (lessV_end (fun q h1 h2 => hall.out q (by omega) h1 h2)))
      clear hall hbox Hf R1 R2
      by_cases hl1 : j < l1.length
      · have hl2 : ¬ j < l2.length := fun h => hlt ⟨hl1, h⟩
        clear hlt
        go_wp2_with fail
        go_ret
        exact ⟨by rw [Hf2.out]; rfl, Hbox.out.1.1⟩
      · clear hlt
        go_wp2_with fail
        go_ret
        exact ⟨by rw [Hf2.out]; rfl, Hbox.out.1.1⟩
end Go.Proofs.YtcfbkfmkjggcdaaGreatDoor.need
namespace Go.Proofs.YtcfbkfmkjggcdaaGreatDoor.need
open Go.ChangeShapes Go.WideShapes Go.ChangeAt Go.RowKit ty lab
set_option linter.unusedVariables false
/-- An element of a list of requirements in memory: its cells, in every world that keeps what was there. -/
theorem el_at {w wr : World} {f : Nat} {A : Option Addr} {l : List Need} (h : ElsAt Need.row w f A l 3) (hb : Below w.heap.size w wr) {j : Nat} (hj : j < l.length) :
    ∃ g o A2 c2, A = some ⟨g, o, none⟩ ∧ (∀ p : BelowBy wr, p.v.cell? ⟨g, o + j * 3, none⟩ = some (.string l[j].key)) ∧ (∀ p : BelowBy wr, p.v.cell? ⟨g, o + j * 3 + 1, none⟩ = some (.int .i64 l[j].op)) ∧
      (∀ p : BelowBy wr, p.v.cell? ⟨g, o + j * 3 + 2, none⟩ = some (.slice A2 l[j].values.length c2)) ∧ ∀ p : BelowBy wr, LiesS p.v f [.string l[j].key, .int .i64 l[j].op, .slice A2 l[j].values.length c2] l[j].row := by
  obtain ⟨g, o, rfl, hg, us, hus, hc, hls⟩ := (h.below hb).get hj
  have hls2 := hls
  obtain ⟨A2, c2, rfl, _⟩ := Need.opened hls
  exact ⟨g, o, A2, c2, rfl, fun p => p.cell hg (hc 0 _ rfl), fun p => p.cell hg (hc 1 _ rfl), fun p => p.cell hg (hc 2 _ rfl), fun p => hls2.kept p.h.block⟩
end Go.Proofs.YtcfbkfmkjggcdaaGreatDoor.need
namespace Go.Proofs.YtcfbkfmkjggcdaaGreatDoor.need
open Go.ChangeShapes Go.WideShapes Go.ChangeAt Go.RowKit ty lab
set_option linter.unusedVariables false
set_option maxRecDepth 100000 in
set_option maxHeartbeats 16000000 in
theorem spec_sel (l : List Need) (f : Nat) (v : Value) (w : World) (h : Lies w f v (.sl 3 l.length (l.flatMap Need.row))) (hw : l.length + wsum Need.wt l ≤ 1048576) :
    Calls Tryz.prog 54 #[v] w fun e w' => e = .returned (.bool (yes (SelP l))) ∧ Below w.heap.size w w' := by
  obtain ⟨A, c, rfl, hc1, hc2, f', rfl, hk⟩ := els_of Need.row_length h
  unfold maxLen at hc2
  obtain ⟨R, hR⟩ : ∃ R, yes (SelP l) = R := ⟨_, rfl⟩
  rw [hR]
  have Hno : Hid (¬ SelP l → R = false) := fun h => by rw [← hR]; exact yes_f h
  have Hyes : Hid (SelP l → R = true) := fun h => by rw [← hR]; exact yes_t h
  have Hwt : Hid (∀ j (h : j < l.length), l[j].wt ≤ 1048576) := fun j h => by have := wsum_mem Need.wt h; omega
  have Hk := Lib.hid hk
  clear h hk hR hw
  by_cases h6 : 4 < l.length
  · have Hf := Lib.hid (Hno.out fun h2 => by have := h2.1; omega)
    go_enter Tryz.func54, Tryz.ntmps54
    go_wp2_with fail
    go_ret
    exact ⟨by rw [Hf.out]; rfl, Below.refl _ _⟩
  have Hmk := Lib.hid (fun h3 => Hyes.out ⟨by omega, h3⟩)
  go_enter Tryz.func54, Tryz.ntmps54
  go_wp2_with fail
  go_loopw [3] (fun i wr => ∃ j : Nat, j ≤ l.length ∧ i = .int .i64 j ∧ Hid (GoodN l j) ∧ Below w.heap.size w wr) (fun i _ => l.length - (intOf i).toNat)
  case atStart => exact ⟨0, Nat.zero_le _, rfl, fun i hi hj => by omega, Below.refl _ _⟩
  case round =>
    obtain ⟨j, hj, rfl, hgood, hbel⟩ := hrel
    have Hbel := Lib.hid hbel
    by_cases hlt : j < l.length
    · obtain ⟨g, o, A2, c2, rfl, q0, q1, q2, hls⟩ := el_at Hk.out hbel hlt
      have HN := Lib.hid (fun p : BelowBy wr => spec_need l[j] f' _ p.v (hls p) (Hwt.out j hlt))
      have Hls := Lib.hid hls
      have hj0 : (0 : Int) ≤ (j : Int) := by omega
      have hjn : (j : Int) < (l.length : Int) := by omega
      by_cases hP : NeedP l[j]
      case neg =>
        have Hf := Lib.hid (Hno.out fun h2 => hP (h2.2 j hlt hlt).1)
        rw [yes_f hP] at HN
        clear hP Hmk Hno Hyes hgood hls Hls Hwt Hk
        generalize l[j] = x at q0 q1 q2 HN
        go_wp2_with fail
        refine wp_region_quiet_below (by kernel_rfl) (by kernel_rfl) ?_
        repeat (refine @wpQuiet_step _ _ _ _ _ _ _ ?_; intro K hK; go_simp; first | (refine hK _ ?_; clear hK K) | (apply Exists.intro; refine ⟨fun _ => ?_, hK _ ?_⟩; (first | (go_at_call 119; exact Calls.below_of (HN.out _))); clear hK K))
        refine wpQuiet_nil ?_
        intro _ hw'
        obtain ⟨p, rfl⟩ := hw'
        go_wp2_with fail
        go_ret
        exact ⟨by rw [Hf.out]; rfl, Hbel.out.trans (p.h.mono Hbel.out.size)⟩
      rw [yes_t hP] at HN
      by_cases hz : j = 0
      · have Hg := Lib.hid (goodN_next hgood.out hlt hP (fun m hm => by omega))
        have hn0 : ¬ (0 : Int) < (j : Int) := by omega
        have hn1 : ¬ 0 < j := by omega
        clear hP Hmk Hno Hyes hgood hls Hls Hwt Hk hz
        generalize l[j] = x at q0 q1 q2 HN
        go_wp2_with fail
        refine wp_region_quiet_below (by kernel_rfl) (by kernel_rfl) ?_
        repeat (refine @wpQuiet_step _ _ _ _ _ _ _ ?_; intro K hK; go_simp; first | (refine hK _ ?_; clear hK K) | (apply Exists.intro; refine ⟨fun _ => ?_, hK _ ?_⟩; (first | (go_at_call 119; exact Calls.below_of (HN.out _))); clear hK K))
        refine wpQuiet_nil ?_
        intro _ hw'
        obtain ⟨p, rfl⟩ := hw'
        go_wp2_with fail
        go_roundw
        case rel => exact ⟨j + 1, by omega, by go_num, Hg.out, Hbel.out.trans (p.h.mono Hbel.out.size)⟩
        case measure => simp [intOf]; omega
      obtain ⟨m, hm⟩ : ∃ m, m + 1 = j := ⟨j - 1, by omega⟩
      have hml : m < l.length := by omega
      obtain ⟨g', o', A3, c3, hA3, r0, r1, r2, hls2⟩ := el_at Hk.out hbel hml
      injection hA3 with hA3
      injection hA3 with e1 e2
      subst e1 e2
      have HL := Lib.hid (fun p : BelowBy wr => spec_less l[m] l[j] f' f' _ _ p.v (hls2 p) (hls p))
      have hmi : (j : Int) - 1 = (m : Int) := by omega
      have hwm : IntKind.i64.wrap (m : Int) = (m : Int) := IntWalk.i64_in _ (by omega)
      have hm0 : (0 : Int) ≤ (m : Int) := by omega
      have hm1 : (m : Int) < (l.length : Int) := by omega
      have hjp : (0 : Int) < (j : Int) := by omega
      have hjp1 : 0 < j := by omega
      cases hb : lessN l[m] l[j] with
      | true =>
        have Hg := Lib.hid (goodN_next hgood.out hlt hP (fun m' hm' => by obtain rfl : m' = m := by omega
                                                                          exact hb))
        rw [hb] at HL
        clear hP Hmk Hno Hyes hgood hls Hls hls2 Hwt Hk hz hm hb
        generalize l[j] = x at q0 q1 q2 HN HL
        generalize l[m] = y at r0 r1 r2 HL
        go_wp2_with fail
        refine wp_region_quiet_below (by kernel_rfl) (by kernel_rfl) ?_
        repeat (refine @wpQuiet_step _ _ _ _ _ _ _ ?_; intro K hK; go_simp; first | (refine hK _ ?_; clear hK K) | (apply Exists.intro; refine ⟨fun _ => ?_, hK _ ?_⟩; (first | (go_at_call 119; exact Calls.below_of (HN.out _)) | (go_at_call 112; exact Calls.below_of (HL.out _))); clear hK K))
        refine wpQuiet_nil ?_
        intro _ hw'
        obtain ⟨p, rfl⟩ := hw'
        go_wp2_with fail
        go_roundw
        case rel => exact ⟨j + 1, by omega, by go_num, Hg.out, Hbel.out.trans (p.h.mono Hbel.out.size)⟩
        case measure => simp [intOf]; omega
      | false =>
        have Hf := Lib.hid (Hno.out fun h2 => by rw [(h2.2 j hlt hlt).2 m hm] at hb; cases hb)
        rw [hb] at HL
        clear hP Hmk Hno Hyes hgood hls Hls hls2 Hwt Hk hz hm hb
        generalize l[j] = x at q0 q1 q2 HN HL
        generalize l[m] = y at r0 r1 r2 HL
        go_wp2_with fail
        refine wp_region_quiet_below (by kernel_rfl) (by kernel_rfl) ?_
        repeat (refine @wpQuiet_step _ _ _ _ _ _ _ ?_; intro K hK; go_simp; first | (refine hK _ ?_; clear hK K) | (apply Exists.intro; refine ⟨fun _ => ?_, hK _ ?_⟩; (first | (go_at_call 119; exact Calls.below_of (HN.out _)) | (go_at_call 112; exact Calls.below_of (HL.out _))); clear hK K))
        refine wpQuiet_nil ?_
        intro _ hw'
        obtain ⟨p, rfl⟩ := hw'
        go_wp2_with fail
        go_ret
        exact ⟨by rw [Hf.out]; rfl, Hbel.out.trans (p.h.mono Hbel.out.size)⟩
    · obtain rfl : j = l.length := by omega
      have Hf := Lib.hid (Hmk.out hgood.out)
      clear hgood hbel
      go_wp2_with fail
      go_ret
      exact ⟨by rw [Hf.out]; rfl, Hbel.out⟩
end Go.Proofs.YtcfbkfmkjggcdaaGreatDoor.need
namespace Go.Proofs.YtcfbkfmkjggcdaaGreatDoor.ty
open Go Go.RowKit
set_option linter.unusedVariables false

def Tolerance.cells (x : Tolerance) : List Value := [.string x.key, .bool x.equal, .string x.value, .int .i64 x.effect]
theorem Tolerance.cells_len (x : Tolerance) : x.cells.length = 4 := rfl
theorem Tolerance.cells_one (x : Tolerance) : ∀ u ∈ x.cells, u.oneCell' = true := by intro u hu; simp [Tolerance.cells] at hu; rcases hu with rfl | rfl | rfl | rfl <;> rfl
theorem Tolerance.cells_all (x : Tolerance) : (#[.string x.key, .bool x.equal, .string x.value, .int .i64 x.effect] : Array Value).all (·.oneCell') = true := by simp [Value.oneCell']
theorem rdk_Tolerance {w : World} {f : Nat} {A : Option Addr} {l : List Tolerance} (h : ElsAt Tolerance.row w f A l 4) : RdK w A l.length 4 (l.flatMap Tolerance.cells) ∧ ∀ x ∈ l, x.Wf := flt.rdk_of_els Tolerance.cells_len (by decide) (fun _ _ _ _ h => Tolerance.opened h) h
theorem own_Tolerance {w : World} {B : Nat} {e : TypeId} {v : Value} {l : List Tolerance} (h : w.ownsRow B e 4 v l.length (l.flatMap Tolerance.cells)) (hw : ∀ x ∈ l, x.Wf) : ∃ F, Own w B 2 v (.sl 4 l.length (l.flatMap Tolerance.row)) F ∧ F.Nodup ∧ ∀ x ∈ F, B ≤ x ∧ x < w.heap.size := flt.own_vals Tolerance.row_length (fun _ h => Tolerance.owned h) h hw
instance inhFlTolerance : Inhabited Tolerance := ⟨⟨⟨#[]⟩, false, ⟨#[]⟩, 0⟩⟩
end Go.Proofs.YtcfbkfmkjggcdaaGreatDoor.ty
namespace Go.Proofs.YtcfbkfmkjggcdaaGreatDoor.taint
open Go Go.RowKit ty lab
set_option linter.unusedVariables false

/-- What is asked of the key and the value. -/
def TolK (k : ByteArray) (q : Bool) (a : ByteArray) : Prop := (q = true ∧ KeyP k ∧ ValP a) ∨ (q = false ∧ a.size = 0 ∧ (k.size = 0 ∨ KeyP k))
theorem tol_iff (x : Tolerance) : TolP x ↔ (0 ≤ x.effect ∧ x.effect ≤ 2) ∧ TolK x.key x.equal x.value := by
  constructor
  · intro h
    refine ⟨⟨h.lo, h.hi⟩, ?_⟩
    cases hq : x.equal with
    | true => exact .inl ⟨rfl, h.eq hq⟩
    | false => exact .inr ⟨rfl, h.free hq⟩
  · rintro ⟨⟨h1, h2⟩, h⟩
    refine ⟨h1, h2, fun hq => ?_, fun hq => ?_⟩
    · rcases h with ⟨h, _⟩ | ⟨_, h⟩
      · rw [hq] at h; cases h
      · exact h
    · rcases h with ⟨_, h⟩ | ⟨h, _⟩
      · exact h
      · rw [hq] at h; cases h
theorem empty_is {a : ByteArray} (h : a.size = 0) : a = ⟨#[]⟩ := by
  apply ByteArray.ext
  exact Array.eq_empty_of_size_eq_zero h
theorem empty_yes {a : ByteArray} (h : a.size = 0) : (a.toList == []) = true := by
  have : a.toList.length = 0 := by rw [ByteArray.toList_eq, Array.length_toList]; exact h
  rw [List.eq_nil_of_length_eq_zero this]; rfl
theorem empty_no {a : ByteArray} (h : ¬ a.size = 0) : (a.toList == []) = false := by
  rw [beq_eq_false_iff_ne]
  intro e
  apply h
  have h2 : a.toList.length = a.size := by rw [ByteArray.toList_eq, Array.length_toList]; rfl
  rw [← h2, e]; rfl
theorem val_empty : ValP ⟨#[]⟩ := .inl rfl
theorem tolK_eq (k a : ByteArray) : yes (TolK k true a) = (yes (KeyP k) && yes (ValP a)) := by
  by_cases h1 : KeyP k
  · by_cases h2 : ValP a
    · rw [yes_t h1, yes_t h2, yes_t (.inl ⟨rfl, h1, h2⟩)]; rfl
    · rw [yes_t h1, yes_f h2, yes_f]
      · rfl
      · rintro (⟨_, h⟩ | ⟨h, _⟩)
        · exact h2 h.2
        · cases h
  · rw [yes_f h1, yes_f]
    · rfl
    · rintro (⟨_, h⟩ | ⟨h, _⟩)
      · exact h1 h.1
      · cases h
end Go.Proofs.YtcfbkfmkjggcdaaGreatDoor.taint
namespace Go.Proofs.YtcfbkfmkjggcdaaGreatDoor.taint
open Go.ChangeShapes Go.WideShapes Go.ChangeAt Go.RowKit ty lab need
set_option linter.unusedVariables false

set_option maxRecDepth 100000 in
set_option maxHeartbeats 8000000 in
theorem spec_tol (x : Tolerance) (w : World) (hz : x.wt ≤ 1048576) :
    Calls Tryz.prog 120 #[.agg #[.string x.key, .bool x.equal, .string x.value, .int .i64 x.effect]] w fun e w' => e = .returned (.bool (yes (TolP x))) ∧ Below w.heap.size w w' := by
  unfold Tolerance.wt at hz
  obtain ⟨k, q, a, n⟩ := x
  simp only at *
  rw [show yes (TolP ⟨k, q, a, n⟩) = yes ((0 ≤ n ∧ n ≤ 2) ∧ TolK k q a) from by congr 1; exact propext (tol_iff ⟨k, q, a, n⟩)]
  have HK := Lib.hid (fun w' => spec_key k w' (by omega))
  have HV := Lib.hid (fun w' => spec_val a w' (by omega))
  have HI := Lib.hid (fun w' => in_call n w' 0 2)
  have Hb0 := Lib.hid (fun (o : Obj) n => below_drewN ((Below.refl w.heap.size w).alloc (Nat.le_refl _) o) n)
  clear hz
  by_cases hn : 0 ≤ n ∧ n ≤ 2
  case neg =>
    have Hf := Lib.hid (yes_f (p := (0 ≤ n ∧ n ≤ 2) ∧ TolK k q a) (fun h => hn h.1))
    rw [yes_f hn] at HI
    clear hn HK HV
    go_enter Tryz.func120, Tryz.ntmps120
    go_wp2_with fail
    refine (HI.out _).mono ?_
    rintro e w1 ⟨rfl, rfl⟩
    go_wp2_with fail
    go_ret
    exact ⟨by rw [Hf.out]; rfl, Hb0.out _ 0⟩
  rw [yes_t hn] at HI
  have HT : Hid (yes ((0 ≤ n ∧ n ≤ 2) ∧ TolK k q a) = yes (TolK k q a)) := by
    unfold Hid
    congr 1
    exact propext ⟨fun h => h.2, fun h => ⟨hn, h⟩⟩
  rw [HT.out]
  clear HT hn
  cases q with
  | true =>
    rw [tolK_eq]
    generalize yes (ValP a) = b2 at HV ⊢
    by_cases hk : KeyP k
    · rw [yes_t hk] at HK ⊢
      clear hk
      go_enter Tryz.func120, Tryz.ntmps120
      go_wp2_with fail
      refine (HI.out _).mono ?_
      rintro e w1 ⟨rfl, rfl⟩
      go_wp2_with fail
      refine (HK.out _).mono ?_
      rintro e w1 ⟨rfl, n1, rfl⟩
      go_wp2_with fail
      refine (HV.out _).mono ?_
      rintro e w1 ⟨rfl, n2, rfl⟩
      go_wp2_with fail
      go_ret
      exact ⟨by cases b2 <;> rfl, by simpa using Hb0.out _ _⟩
    · rw [yes_f hk] at HK ⊢
      clear hk HV
      go_enter Tryz.func120, Tryz.ntmps120
      go_wp2_with fail
      refine (HI.out _).mono ?_
      rintro e w1 ⟨rfl, rfl⟩
      go_wp2_with fail
      refine (HK.out _).mono ?_
      rintro e w1 ⟨rfl, n1, rfl⟩
      go_wp2_with fail
      go_ret
      exact ⟨by cases b2 <;> rfl, Hb0.out _ _⟩
  | false =>
    clear HV
    by_cases ha : a.size = 0
    case neg =>
      have Hf := Lib.hid (yes_f (p := TolK k false a) (fun h => by
        rcases h with ⟨h, _⟩ | ⟨_, h, _⟩
        · cases h
        · exact ha h))
      have e1 := empty_no ha
      clear ha HK
      go_enter Tryz.func120, Tryz.ntmps120
      go_wp2_with fail
      refine (HI.out _).mono ?_
      rintro e w1 ⟨rfl, rfl⟩
      go_wp2_with fail
      go_ret
      exact ⟨by rw [Hf.out]; rfl, Hb0.out _ 0⟩
    have e1 := empty_yes ha
    by_cases hk : k.size = 0
    · have Hf := Lib.hid (yes_t (p := TolK k false a) (.inr ⟨rfl, ha, .inl hk⟩))
      have e2 := empty_yes hk
      clear ha hk HK
      go_enter Tryz.func120, Tryz.ntmps120
      go_wp2_with fail
      refine (HI.out _).mono ?_
      rintro e w1 ⟨rfl, rfl⟩
      go_wp2_with fail
      go_ret
      exact ⟨by rw [Hf.out]; rfl, Hb0.out _ 0⟩
    have e2 := empty_no hk
    have Hf : Hid (yes (TolK k false a) = yes (KeyP k)) := by
      unfold Hid
      congr 1
      refine propext ⟨fun h => ?_, fun h => .inr ⟨rfl, ha, .inr h⟩⟩
      rcases h with ⟨h, _⟩ | ⟨_, _, h⟩
      · cases h
      · exact h.resolve_left hk
    rw [Hf.out]
    clear Hf ha hk
    generalize yes (KeyP k) = R at HK ⊢
    go_enter Tryz.func120, Tryz.ntmps120
    go_wp2_with fail
    refine (HI.out _).mono ?_
    rintro e w1 ⟨rfl, rfl⟩
    go_wp2_with fail
    refine (HK.out _).mono ?_
    rintro e w1 ⟨rfl, n1, rfl⟩
    go_wp2_with fail
    go_ret
    exact ⟨rfl, Hb0.out _ _⟩
theorem befT_key {a b : Tolerance} (h : ¬ a.key = b.key) : befT a b = lessB a.key b.key := by unfold befT; rw [if_neg h]
theorem befT_eq {a b : Tolerance} (h : a.key = b.key) (h2 : ¬ a.equal = b.equal) : befT a b = b.equal := by unfold befT befE; rw [if_pos h, if_neg h2]
theorem befT_val {a b : Tolerance} (h : a.key = b.key) (h2 : a.equal = b.equal) (h3 : ¬ a.value = b.value) : befT a b = lessB a.value b.value := by unfold befT befE befV; rw [if_pos h, if_pos h2, if_neg h3]
theorem befT_eff {a b : Tolerance} (h : a.key = b.key) (h2 : a.equal = b.equal) (h3 : a.value = b.value) : befT a b = decide (a.effect < b.effect) := by unfold befT befE befV; rw [if_pos h, if_pos h2, if_pos h3]
set_option maxRecDepth 100000 in
set_option maxHeartbeats 16000000 in
theorem spec_befT (x y : Tolerance) (w : World) :
    Calls Tryz.prog 113 #[.agg #[.string x.key, .bool x.equal, .string x.value, .int .i64 x.effect], .agg #[.string y.key, .bool y.equal, .string y.value, .int .i64 y.effect]] w fun e w' => e = .returned (.bool (befT x y)) ∧ Below w.heap.size w w' := by
  obtain ⟨R, hR⟩ : ∃ R, befT x y = R := ⟨_, rfl⟩
  rw [hR]
  have Hk : Hid (¬ x.key = y.key → R = lessB x.key y.key) := fun h => by rw [← hR]; exact befT_key h
  have Hq : Hid (x.key = y.key → ¬ x.equal = y.equal → R = y.equal) := fun h h2 => by rw [← hR]; exact befT_eq h h2
  have Hv : Hid (x.key = y.key → x.equal = y.equal → ¬ x.value = y.value → R = lessB x.value y.value) := fun h h2 h3 => by rw [← hR]; exact befT_val h h2 h3
  have He : Hid (x.key = y.key → x.equal = y.equal → x.value = y.value → R = decide (x.effect < y.effect)) := fun h h2 h3 => by rw [← hR]; exact befT_eff h h2 h3
  obtain ⟨k1, q1, v1, n1⟩ := x
  obtain ⟨k2, q2, v2, n2⟩ := y
  simp only at *
  have Hb := Lib.hid (fun a b : Obj => ((Below.refl w.heap.size w).alloc (Nat.le_refl _) a).alloc (by simp) b)
  clear hR
  by_cases hk : k1 = k2
  case neg =>
    have Hf := Lib.hid (Hk.out hk)
    have hs := same_no hk
    unfold lessB at Hf
    clear hk Hk Hv He Hq
    go_enter Tryz.func113, Tryz.ntmps113
    go_wp2_with fail
    go_ret
    exact ⟨by rw [Hf.out]; rfl, Hb.out _ _⟩
  have hs := same_yes hk
  by_cases hq : q1 = q2
  case neg =>
    have Hf := Lib.hid (Hq.out hk hq)
    clear hk Hk Hv He Hq
    cases q1 <;> cases q2 <;> first
      | exact absurd rfl hq
      | (clear hq
         go_enter Tryz.func113, Tryz.ntmps113
         go_wp2_with fail
         go_ret
         exact ⟨by rw [Hf.out]; rfl, Hb.out _ _⟩)
  subst hq
  clear Hq Hk
  cases q1 <;>
  · by_cases hv : v1 = v2
    case neg =>
      have Hf := Lib.hid (Hv.out hk rfl hv)
      have ht := same_no hv
      unfold lessB at Hf
      clear hk hv Hv He
      go_enter Tryz.func113, Tryz.ntmps113
      go_wp2_with fail
      go_ret
      exact ⟨by rw [Hf.out]; rfl, Hb.out _ _⟩
    have ht := same_yes hv
    have Hf := Lib.hid (He.out hk rfl hv)
    clear hk hv Hv He
    go_enter Tryz.func113, Tryz.ntmps113
    go_wp2_with fail
    go_ret
    exact ⟨by rw [Hf.out]; rfl, Hb.out _ _⟩
end Go.Proofs.YtcfbkfmkjggcdaaGreatDoor.taint
