/- spec.TaintsOk. Printed by gen/gen_fl.py. -/
import Derived.Test.YtpadpiibiocabaaDoorGFl
import Derived.Test.YtpadpiibiocabaaDoorGQ
import Derived.Test.YtpadpiibiocabaaDoorGLabP
import Derived.Laws.Cover1
import Derived.Test.YtpadpiibiocabaaDoorGSp
namespace Go.Proofs.YtpadpiibiocabaaDoor.taint
open Go.ChangeShapes Go.WideShapes Go.ChangeAt Go.RowKit ty lab dedup need
set_option linter.unusedVariables false

set_option maxRecDepth 100000 in
set_option maxHeartbeats 16000000 in
theorem spec_oksTaint (l : List Taint) (f : Nat) (v : Value) (w : World) (h : Lies w f v (.sl 3 l.length (l.flatMap Taint.row))) (hz : wsum Taint.wt l ≤ 1048576) :
    Calls Tryd.prog 24 #[v] w fun e w' => e = .returned (.bool (yes (TaintsP l))) ∧ Below w.heap.size w w' := by
  obtain ⟨A, c, rfl, hc1, hc2, f', rfl, hk⟩ := els_of Taint.row_length h
  unfold maxLen at hc2
  obtain ⟨R, hR⟩ : ∃ R, yes (TaintsP l) = R := ⟨_, rfl⟩
  rw [hR]
  have Hno : Hid (¬ TaintsP l → R = false) := fun h => by rw [← hR]; exact yes_f h
  have Hyes : Hid (TaintsP l → R = true) := fun h => by rw [← hR]; exact yes_t h
  have Hk := Lib.hid hk
  have Hz := Lib.hid (fun j (hj : j < l.length) => Nat.le_trans (wsum_mem Taint.wt hj) hz)
  clear h hk hR hz
  by_cases h4 : 4 < l.length
  · have Hf := Lib.hid (Hno.out fun h2 => by have := h2.1; omega)
    go_enter Tryd.func24, Tryd.ntmps24
    go_wp2_with fail
    go_ret
    exact ⟨by rw [Hf.out]; rfl, Below.refl _ _⟩
  have Hmk := Lib.hid (fun h3 => Hyes.out ⟨by omega, h3⟩)
  have Hng := Lib.hid (fun (h3 : ¬ GoodL TaintP lessT l l.length) => Hno.out (fun h => h3 h.2))
  clear Hno Hyes
  go_enter Tryd.func24, Tryd.ntmps24
  go_wp2_with fail
  go_loopw [3] (fun i wr => ∃ j : Nat, j ≤ l.length ∧ i = .int .i64 j ∧ Hid (GoodL TaintP lessT l j) ∧ Below w.heap.size w wr) (fun i _ => l.length - (intOf i).toNat)
  case atStart => exact ⟨0, Nat.zero_le _, rfl, fun i hi hj => by omega, Below.refl _ _⟩
  case round =>
    obtain ⟨j, hj, rfl, hgood, hbel⟩ := hrel
    have Hbel := Lib.hid hbel
    by_cases hlt : j < l.length
    · obtain ⟨g, o, rfl, hg, us, hus, hc, hls⟩ := (Hk.out.below hbel).get hlt
      obtain ⟨rfl, hwf⟩ := Taint.opened hls
      have q0 : ∀ p : BelowBy wr, p.v.cell? ⟨g, o + j * 3, none⟩ = some (.string l[j].key) := fun p => p.cell hg (hc 0 _ rfl)
      have q1 : ∀ p : BelowBy wr, p.v.cell? ⟨g, o + j * 3 + 1, none⟩ = some (.string l[j].value) := fun p => p.cell hg (hc 1 _ rfl)
      have q2 : ∀ p : BelowBy wr, p.v.cell? ⟨g, o + j * 3 + 2, none⟩ = some (.int .i64 l[j].effect) := fun p => p.cell hg (hc 2 _ rfl)
      have HN := Lib.hid (fun p : BelowBy wr => spec_taint l[j] p.v (Hz.out j hlt))
      have HW2 : Hid (∀ p : BelowBy wr, Below w.heap.size w p.v) := fun p => below_link hbel p.h hbel.size
      have hj0 : (0 : Int) ≤ (j : Int) := by omega
      have hjn : (j : Int) < (l.length : Int) := by omega
      by_cases hP : TaintP l[j]
      case neg =>
        have Hf := Lib.hid (Hng.out fun h2 => hP (h2 j hlt hlt).1)
        rw [yes_f hP] at HN
        clear hP Hng Hmk hgood hls hus hc hg hwf Hk hbel
        generalize l[j] = x at *
        go_wp2_with fail
        refine wp_region_quiet_below (by kernel_rfl) (by kernel_rfl) ?_
        repeat (refine @wpQuiet_step _ _ _ _ _ _ _ ?_; intro K hK; go_simp; first | (refine hK _ ?_; clear hK K) | (apply Exists.intro; refine ⟨fun _ => ?_, hK _ ?_⟩; (first | (go_at_call 16; exact Calls.below_of (HN.out _))); clear hK K))
        refine wpQuiet_nil ?_
        intro _ hw'
        obtain ⟨p, rfl⟩ := hw'
        go_wp2_with fail
        go_ret
        exact ⟨by rw [Hf.out]; rfl, HW2.out p⟩
      rw [yes_t hP] at HN
      by_cases hz : j = 0
      · have Hg := Lib.hid (goodL_next hgood.out hlt hP (fun m hm => by omega))
        have hn0 : ¬ (0 : Int) < (j : Int) := by omega
        have hn1 : ¬ 0 < j := by omega
        clear hP Hng Hmk hgood hls hus hc hg hwf Hk hz hbel
        generalize l[j] = x at *
        go_wp2_with fail
        refine wp_region_quiet_below (by kernel_rfl) (by kernel_rfl) ?_
        repeat (refine @wpQuiet_step _ _ _ _ _ _ _ ?_; intro K hK; go_simp; first | (refine hK _ ?_; clear hK K) | (apply Exists.intro; refine ⟨fun _ => ?_, hK _ ?_⟩; (first | (go_at_call 16; exact Calls.below_of (HN.out _))); clear hK K))
        refine wpQuiet_nil ?_
        intro _ hw'
        obtain ⟨p, rfl⟩ := hw'
        go_wp2_with fail
        go_roundw
        case rel => exact ⟨j + 1, by omega, by go_num, Hg.out, HW2.out p⟩
        case measure => simp [intOf]; omega
      obtain ⟨m, hm⟩ : ∃ m, m + 1 = j := ⟨j - 1, by omega⟩
      have hml : m < l.length := by omega
      obtain ⟨g', o', hA3, hg2, us2, hus2, hc2', hls2⟩ := (Hk.out.below hbel).get hml
      injection hA3 with hA3
      injection hA3 with e1 e2
      subst e1 e2
      obtain ⟨rfl, _⟩ := Taint.opened hls2
      have HC := Lib.hid (fun p : BelowBy wr => spec_lessT l[m] l[j] p.v)
      have R0 : ∀ p : BelowBy wr, p.v.cell? ⟨g, o + m * 3, none⟩ = some (.string l[m].key) := fun p => p.cell hg (hc2' 0 _ rfl)
      have R1 : ∀ p : BelowBy wr, p.v.cell? ⟨g, o + m * 3 + 1, none⟩ = some (.string l[m].value) := fun p => p.cell hg (hc2' 1 _ rfl)
      have R2 : ∀ p : BelowBy wr, p.v.cell? ⟨g, o + m * 3 + 2, none⟩ = some (.int .i64 l[m].effect) := fun p => p.cell hg (hc2' 2 _ rfl)
      have hmi : (j : Int) - 1 = (m : Int) := by omega
      have hwm : IntKind.i64.wrap (m : Int) = (m : Int) := IntWalk.i64_in _ (by omega)
      have hm0 : (0 : Int) ≤ (m : Int) := by omega
      have hm1 : (m : Int) < (l.length : Int) := by omega
      have hjp : (0 : Int) < (j : Int) := by omega
      have hjp1 : 0 < j := by omega
      cases hb : lessT l[m] l[j] with
      | true =>
        have Hg := Lib.hid (goodL_next hgood.out hlt hP (fun m' hm' => by obtain rfl : m' = m := by omega
                                                                          exact hb))
        rw [hb] at HC
        clear hP Hng Hmk hgood hls hus hc hg hwf hls2 hus2 hc2' hg2 Hk hz hm hb hbel
        generalize l[j] = x at *
        generalize l[m] = y at *
        go_wp2_with fail
        refine wp_region_quiet_below (by kernel_rfl) (by kernel_rfl) ?_
        repeat (refine @wpQuiet_step _ _ _ _ _ _ _ ?_; intro K hK; go_simp; first | (refine hK _ ?_; clear hK K) | (apply Exists.intro; refine ⟨fun _ => ?_, hK _ ?_⟩; (first | (go_at_call 16; exact Calls.below_of (HN.out _)) | (go_at_call 62; exact Calls.below_of (HC.out _))); clear hK K))
        refine wpQuiet_nil ?_
        intro _ hw'
        obtain ⟨p, rfl⟩ := hw'
        go_wp2_with fail
        go_roundw
        case rel => exact ⟨j + 1, by omega, by go_num, Hg.out, HW2.out p⟩
        case measure => simp [intOf]; omega
      | false =>
        have Hf := Lib.hid (Hng.out fun h2 => by
          have := (h2 j hlt hlt).2 m hm
          rw [hb] at this; cases this)
        rw [hb] at HC
        clear hP Hng Hmk hgood hls hus hc hg hwf hls2 hus2 hc2' hg2 Hk hz hm hb hbel
        generalize l[j] = x at *
        generalize l[m] = y at *
        go_wp2_with fail
        refine wp_region_quiet_below (by kernel_rfl) (by kernel_rfl) ?_
        repeat (refine @wpQuiet_step _ _ _ _ _ _ _ ?_; intro K hK; go_simp; first | (refine hK _ ?_; clear hK K) | (apply Exists.intro; refine ⟨fun _ => ?_, hK _ ?_⟩; (first | (go_at_call 16; exact Calls.below_of (HN.out _)) | (go_at_call 62; exact Calls.below_of (HC.out _))); clear hK K))
        refine wpQuiet_nil ?_
        intro _ hw'
        obtain ⟨p, rfl⟩ := hw'
        go_wp2_with fail
        go_ret
        exact ⟨by rw [Hf.out]; rfl, HW2.out p⟩
    · obtain rfl : j = l.length := by omega
      have Hf := Lib.hid (Hmk.out hgood.out)
      clear hgood hbel
      go_wp2_with fail
      go_ret
      exact ⟨by rw [Hf.out]; rfl, Hbel.out⟩
end Go.Proofs.YtpadpiibiocabaaDoor.taint
