/- Merged: AscTolerance OksToleranceI. -/
import Derived.Test.YtdgedclpaplgoaaDoorGA18
import Derived.Test.YtdgedclpaplgoaaDoorGA0
import Derived.Laws.Cover1
import Derived.Test.YtdgedclpaplgoaaDoorGA12
import Derived.Test.YtdgedclpaplgoaaDoorGA19
import Derived.Test.YtdgedclpaplgoaaDoorCmpOI
import Derived.Test.YtdgedclpaplgoaaDoorGA5
namespace Go.Proofs.YtdgedclpaplgoaaDoor.taint
open Go.ChangeShapes Go.WideShapes Go.ChangeAt Go.RowKit ty lab dedup need
set_option linter.unusedVariables false

set_option maxRecDepth 100000 in
set_option maxHeartbeats 16000000 in
theorem impl_ascTolerance (l : List Tolerance) (f : Nat) (v : Value) (w : World) (h : Lies w f v (.sl 4 l.length (l.flatMap Tolerance.row))) :
    Calls Tryd.prog 103 #[v, .func (.func 104) #[] #[], .func (.func 67) #[] #[]] w fun e w' => e = .returned (.bool (yes (GoodL TolP befT l l.length))) ∧ Below w.heap.size w w' := by
  obtain ⟨A, c, rfl, hc1, hc2, f', rfl, hk⟩ := els_of Tolerance.row_length h
  unfold maxLen at hc2
  obtain ⟨R, hR⟩ : ∃ R, yes (GoodL TolP befT l l.length) = R := ⟨_, rfl⟩
  rw [hR]
  have Hno : Hid (¬ GoodL TolP befT l l.length → R = false) := fun h => by rw [← hR]; exact yes_f h
  have Hyes : Hid (GoodL TolP befT l l.length → R = true) := fun h => by rw [← hR]; exact yes_t h
  have Hk := Lib.hid hk
  clear h hk hR
  go_enter Tryd.func103, Tryd.ntmps103
  go_wp2_with fail
  go_loopw [11] (fun i wr => ∃ j : Nat, j ≤ l.length ∧ i = .int .i64 j ∧ Hid (GoodL TolP befT l j) ∧ Below w.heap.size w wr) (fun i _ => l.length - (intOf i).toNat)
  case atStart => exact ⟨0, Nat.zero_le _, rfl, fun i hi hj => by omega, Below.refl _ _⟩
  case round =>
    obtain ⟨j, hj, rfl, hgood, hbel⟩ := hrel
    have Hbel := Lib.hid hbel
    by_cases hlt : j < l.length
    · obtain ⟨g, o, rfl, hg, us, hus, hc, hls⟩ := (Hk.out.below hbel).get hlt
      obtain ⟨rfl, hwf⟩ := Tolerance.opened hls
      have q0 : wr.cell? ⟨g, o + j * 4, none⟩ = some (.string l[j].key) := hc 0 _ rfl
      have q1 : wr.cell? ⟨g, o + j * 4 + 1, none⟩ = some (.bool l[j].equal) := hc 1 _ rfl
      have q2 : wr.cell? ⟨g, o + j * 4 + 2, none⟩ = some (.string l[j].value) := hc 2 _ rfl
      have q3 : wr.cell? ⟨g, o + j * 4 + 3, none⟩ = some (.int .i64 l[j].effect) := hc 3 _ rfl
      obtain ⟨X, hX⟩ : ∃ X, X = wr.alloc (.cells #[.string l[j].key, .bool l[j].equal, .string l[j].value, .int .i64 l[j].effect] 92) := ⟨_, rfl⟩
      have HB := Lib.hid (Box.new 92 wr [.string l[j].key, .bool l[j].equal, .string l[j].value, .int .i64 l[j].effect])
      have hbX : Below wr.heap.size wr X := by rw [hX]; exact HB.out.1
      have HN := Lib.hid (fun p : BelowBy X => impl_tol l[j] p.v hwf)
      have HW2 : Hid (∀ p : BelowBy X, Below w.heap.size w p.v) := fun p => below_link hbel (hbX.trans (p.h.mono hbX.size)) hbel.size
      have B0 : ∀ p : BelowBy X, p.v.cell? ⟨wr.heap.size, 0, none⟩ = some (.string l[j].key) := fun p => p.cell (by rw [hX]; simp) (by rw [hX]; exact HB.out.cell (j := 0) rfl)
      have B1 : ∀ p : BelowBy X, p.v.cell? ⟨wr.heap.size, 1, none⟩ = some (.bool l[j].equal) := fun p => p.cell (by rw [hX]; simp) (by rw [hX]; exact HB.out.cell (j := 1) rfl)
      have B2 : ∀ p : BelowBy X, p.v.cell? ⟨wr.heap.size, 2, none⟩ = some (.string l[j].value) := fun p => p.cell (by rw [hX]; simp) (by rw [hX]; exact HB.out.cell (j := 2) rfl)
      have B3 : ∀ p : BelowBy X, p.v.cell? ⟨wr.heap.size, 3, none⟩ = some (.int .i64 l[j].effect) := fun p => p.cell (by rw [hX]; simp) (by rw [hX]; exact HB.out.cell (j := 3) rfl)
      have HX := Lib.hid hX
      have hj0 : (0 : Int) ≤ (j : Int) := by omega
      have hjn : (j : Int) < (l.length : Int) := by omega
      by_cases hP : TolP l[j]
      case neg =>
        have Hf := Lib.hid (Hno.out fun h2 => hP (h2 j hlt hlt).1)
        rw [yes_f hP] at HN
        clear hP Hno Hyes hgood hls hus hc hg hwf Hk hbel hbX hX HB
        generalize l[j] = x at *
        go_wp2_with fail
        rw [← HX.out]
        refine wp_region_quiet_below (by kernel_rfl) (by kernel_rfl) ?_
        repeat (refine @wpQuiet_step _ _ _ _ _ _ _ ?_; intro K hK; go_simp; first | (refine hK _ ?_; clear hK K) | (apply Exists.intro; refine ⟨fun _ => ?_, hK _ ?_⟩; (first | (go_at_call 104; exact Calls.below_of (HN.out _))); clear hK K))
        refine wpQuiet_nil ?_
        intro _ hw'
        obtain ⟨p, rfl⟩ := hw'
        go_wp2_with fail
        go_ret
        exact ⟨by rw [Hf.out]; rfl, HW2.out p⟩
      rw [yes_t hP] at HN
      by_cases hz : j = 0
      · have Hg := Lib.hid (goodL_next hgood.out hlt hP (fun m hm => by omega))
        have hn0 : ¬ (0 : Int) < (j : Int) := by omega
        have hn1 : ¬ 0 < j := by omega
        clear hP Hno Hyes hgood hls hus hc hg hwf Hk hz hbel hbX hX HB
        generalize l[j] = x at *
        go_wp2_with fail
        rw [← HX.out]
        refine wp_region_quiet_below (by kernel_rfl) (by kernel_rfl) ?_
        repeat (refine @wpQuiet_step _ _ _ _ _ _ _ ?_; intro K hK; go_simp; first | (refine hK _ ?_; clear hK K) | (apply Exists.intro; refine ⟨fun _ => ?_, hK _ ?_⟩; (first | (go_at_call 104; exact Calls.below_of (HN.out _))); clear hK K))
        refine wpQuiet_nil ?_
        intro _ hw'
        obtain ⟨p, rfl⟩ := hw'
        go_wp2_with fail
        go_roundw
        case rel => exact ⟨j + 1, by omega, by go_num, Hg.out, HW2.out p⟩
        case measure => simp [intOf]; omega
      obtain ⟨m, hm⟩ : ∃ m, m + 1 = j := ⟨j - 1, by omega⟩
      have hml : m < l.length := by omega
      obtain ⟨g', o', hA3, hg2, us2, hus2, hc2', hls2⟩ := (Hk.out.below hbel).get hml
      injection hA3 with hA3
      injection hA3 with e1 e2
      subst e1 e2
      obtain ⟨rfl, _⟩ := Tolerance.opened hls2
      have HC := Lib.hid (fun p : BelowBy X => gr_below (impl_cmpO l[m] l[j] p.v))
      have R0 : ∀ p : BelowBy X, p.v.cell? ⟨g, o + m * 4, none⟩ = some (.string l[m].key) := fun p => (World.cell?_of_block ((hbX.trans (p.h.mono hbX.size)).block g hg)).trans (hc2' 0 _ rfl)
      have R1 : ∀ p : BelowBy X, p.v.cell? ⟨g, o + m * 4 + 1, none⟩ = some (.bool l[m].equal) := fun p => (World.cell?_of_block ((hbX.trans (p.h.mono hbX.size)).block g hg)).trans (hc2' 1 _ rfl)
      have R2 : ∀ p : BelowBy X, p.v.cell? ⟨g, o + m * 4 + 2, none⟩ = some (.string l[m].value) := fun p => (World.cell?_of_block ((hbX.trans (p.h.mono hbX.size)).block g hg)).trans (hc2' 2 _ rfl)
      have R3 : ∀ p : BelowBy X, p.v.cell? ⟨g, o + m * 4 + 3, none⟩ = some (.int .i64 l[m].effect) := fun p => (World.cell?_of_block ((hbX.trans (p.h.mono hbX.size)).block g hg)).trans (hc2' 3 _ rfl)
      have hmi : (j : Int) - 1 = (m : Int) := by omega
      have hwm : IntKind.i64.wrap (m : Int) = (m : Int) := IntWalk.i64_in _ (by omega)
      have hm0 : (0 : Int) ≤ (m : Int) := by omega
      have hm1 : (m : Int) < (l.length : Int) := by omega
      have hjp : (0 : Int) < (j : Int) := by omega
      have hjp1 : 0 < j := by omega
      have hb := CmpWay.less wayO ordO l[m] l[j]
      by_cases hr : cmpO l[m] l[j] < 0
      · rw [decide_eq_true hr] at hb
        have Hg := Lib.hid (goodL_next hgood.out hlt hP (fun m' hm' => by obtain rfl : m' = m := by omega
                                                                          exact hb.symm))
        have hr0 : ¬ (0 : Int) ≤ cmpO l[m] l[j] := by omega
        clear hP Hno Hyes hgood hls hus hc hg hwf hls2 hus2 hc2' hg2 Hk hz hm hb hbel hbX hX HB
        generalize cmpO l[m] l[j] = r at HC hr0 hr
        generalize l[j] = x at *
        generalize l[m] = y at *
        go_wp2_with fail
        rw [← HX.out]
        refine wp_region_quiet_below (by kernel_rfl) (by kernel_rfl) ?_
        repeat (refine @wpQuiet_step _ _ _ _ _ _ _ ?_; intro K hK; go_simp; first | (refine hK _ ?_; clear hK K) | (apply Exists.intro; refine ⟨fun _ => ?_, hK _ ?_⟩; (first | (go_at_call 104; exact Calls.below_of (HN.out _)) | (go_at_call 67; exact Calls.below_of (HC.out _))); clear hK K))
        refine wpQuiet_nil ?_
        intro _ hw'
        obtain ⟨p, rfl⟩ := hw'
        go_wp2_with fail
        go_roundw
        case rel => exact ⟨j + 1, by omega, by go_num, Hg.out, HW2.out p⟩
        case measure => simp [intOf]; omega
      · rw [decide_eq_false hr] at hb
        have Hf := Lib.hid (Hno.out fun h2 => by
          have := (h2 j hlt hlt).2 m hm
          rw [← hb] at this; cases this)
        have hr0 : (0 : Int) ≤ cmpO l[m] l[j] := by omega
        clear hP Hno Hyes hgood hls hus hc hg hwf hls2 hus2 hc2' hg2 Hk hz hm hb hbel hbX hX HB
        generalize cmpO l[m] l[j] = r at HC hr0 hr
        generalize l[j] = x at *
        generalize l[m] = y at *
        go_wp2_with fail
        rw [← HX.out]
        refine wp_region_quiet_below (by kernel_rfl) (by kernel_rfl) ?_
        repeat (refine @wpQuiet_step _ _ _ _ _ _ _ ?_; intro K hK; go_simp; first | (refine hK _ ?_; clear hK K) | (apply Exists.intro; refine ⟨fun _ => ?_, hK _ ?_⟩; (first | (go_at_call 104; exact Calls.below_of (HN.out _)) | (go_at_call 67; exact Calls.below_of (HC.out _))); clear hK K))
        refine wpQuiet_nil ?_
        intro _ hw'
        obtain ⟨p, rfl⟩ := hw'
        go_wp2_with fail
        go_ret
        exact ⟨by rw [Hf.out]; rfl, HW2.out p⟩
    · obtain rfl : j = l.length := by omega
      have Hf := Lib.hid (Hyes.out hgood.out)
      clear hgood hbel
      go_wp2_with fail
      go_ret
      exact ⟨by rw [Hf.out]; rfl, Hbel.out⟩
end Go.Proofs.YtdgedclpaplgoaaDoor.taint
namespace Go.Proofs.YtdgedclpaplgoaaDoor.taint
open Go.ChangeShapes Go.WideShapes Go.ChangeAt Go.RowKit ty lab dedup need
set_option linter.unusedVariables false

set_option maxRecDepth 100000 in
set_option maxHeartbeats 4000000 in
theorem impl_oksTolerance (l : List Tolerance) (f : Nat) (v : Value) (w : World) (h : Lies w f v (.sl 4 l.length (l.flatMap Tolerance.row))) :
    Calls Tryd.prog 68 #[v] w fun e w' => e = .returned (.bool (yes (TolsP l))) ∧ Below w.heap.size w w' := by
  have HA := Lib.hid (impl_ascTolerance l f v w h)
  obtain ⟨A, c, rfl, hc1, hc2, _⟩ := els_of Tolerance.row_length h
  unfold maxLen at hc2
  by_cases h4 : 4 < l.length
  · have Hf := Lib.hid (yes_f (p := TolsP l) (fun h => by have := h.1; omega))
    clear h HA
    go_enter Tryd.func68, Tryd.ntmps68
    go_wp2_with fail
    go_ret
    exact ⟨by rw [Hf.out]; rfl, Below.refl _ _⟩
  have He : Hid (yes (TolsP l) = yes (GoodL TolP befT l l.length)) := by
    unfold Hid
    congr 1
    exact propext ⟨fun h => h.2, fun h => ⟨by omega, h⟩⟩
  rw [He.out]
  clear He h
  generalize yes (GoodL TolP befT l l.length) = R at HA ⊢
  go_enter Tryd.func68, Tryd.ntmps68
  go_wp2_with fail
  refine HA.out.mono ?_
  rintro e w1 ⟨rfl, hb⟩
  go_wp2_with fail
  go_ret
  exact ⟨rfl, hb⟩
end Go.Proofs.YtdgedclpaplgoaaDoor.taint
