/- Merged: AscN SelI. -/
import Derived.Test.YtjcfaepklakpkaaGreatDoorGIdI
import Derived.Test.YtjcfaepklakpkaaGreatDoorGCmp
import Derived.Test.YtjcfaepklakpkaaGreatDoorGNS
namespace Go.Proofs.YtjcfaepklakpkaaGreatDoor.need
open Go.ChangeShapes Go.WideShapes Go.ChangeAt Go.RowKit ty lab
set_option linter.unusedVariables false

set_option maxRecDepth 100000 in
set_option maxHeartbeats 16000000 in
theorem impl_ascN (l : List Need) (f : Nat) (v : Value) (w : World) (h : Lies w f v (.sl 3 l.length (l.flatMap Need.row))) (hw : ∀ j (h : j < l.length), l[j].wt ≤ 1048576) :
    Calls Tryz.prog 36 #[v, .func (.func 33) #[] #[], .func (.func 28) #[] #[]] w fun e w' => e = .returned (.bool (yes (GoodN l l.length))) ∧ Below w.heap.size w w' := by
  obtain ⟨A, c, rfl, hc1, hc2, f', rfl, hk⟩ := els_of Need.row_length h
  unfold maxLen at hc2
  obtain ⟨R, hR⟩ : ∃ R, yes (GoodN l l.length) = R := ⟨_, rfl⟩
  rw [hR]
  have Hno : Hid (¬ GoodN l l.length → R = false) := fun h => by rw [← hR]; exact yes_f h
  have Hyes : Hid (GoodN l l.length → R = true) := fun h => by rw [← hR]; exact yes_t h
  have Hwt := Lib.hid hw
  have Hk := Lib.hid hk
  clear h hk hR hw
  go_enter Tryz.func36, Tryz.ntmps36
  go_wp2_with fail
  go_loopw [11] (fun i wr => ∃ j : Nat, j ≤ l.length ∧ i = .int .i64 j ∧ Hid (GoodN l j) ∧ Below w.heap.size w wr) (fun i _ => l.length - (intOf i).toNat)
  case atStart => exact ⟨0, Nat.zero_le _, rfl, fun i hi hj => by omega, Below.refl _ _⟩
  case round =>
    obtain ⟨j, hj, rfl, hgood, hbel⟩ := hrel
    have Hbel := Lib.hid hbel
    by_cases hlt : j < l.length
    · obtain ⟨g, o, A2, c2, rfl, q0, q1, q2, hls⟩ := el_at Hk.out hbel hlt
      obtain ⟨X, hX⟩ : ∃ X, X = wr.alloc (.cells #[.string l[j].key, .int .i64 l[j].op, .slice A2 l[j].values.length c2] 31) := ⟨_, rfl⟩
      have HB := Lib.hid (Box.new 31 wr [.string l[j].key, .int .i64 l[j].op, .slice A2 l[j].values.length c2])
      have hbX : Below wr.heap.size wr X := by rw [hX]; exact HB.out.1
      have HN := Lib.hid (fun p : BelowBy X => impl_need l[j] f' _ p.v (hls ⟨p.v, hbX.trans (p.h.mono hbX.size)⟩) (Hwt.out j hlt))
      have HW2 : Hid (∀ p : BelowBy X, Below w.heap.size w p.v) := fun p => below_link hbel (hbX.trans (p.h.mono hbX.size)) hbel.size
      have B0 : ∀ p : BelowBy X, p.v.cell? ⟨wr.heap.size, 0, none⟩ = some (.string l[j].key) := fun p => p.cell (by rw [hX]; simp) (by rw [hX]; exact HB.out.cell (j := 0) rfl)
      have B1 : ∀ p : BelowBy X, p.v.cell? ⟨wr.heap.size, 1, none⟩ = some (.int .i64 l[j].op) := fun p => p.cell (by rw [hX]; simp) (by rw [hX]; exact HB.out.cell (j := 1) rfl)
      have B2 : ∀ p : BelowBy X, p.v.cell? ⟨wr.heap.size, 2, none⟩ = some (.slice A2 l[j].values.length c2) := fun p => p.cell (by rw [hX]; simp) (by rw [hX]; exact HB.out.cell (j := 2) rfl)
      have HX := Lib.hid hX
      have HbX := Lib.hid hbX
      have q0 := q0 ⟨wr, Below.refl _ _⟩
      have q1 := q1 ⟨wr, Below.refl _ _⟩
      have q2 := q2 ⟨wr, Below.refl _ _⟩
      simp only at q0 q1 q2
      have hj0 : (0 : Int) ≤ (j : Int) := by omega
      have hjn : (j : Int) < (l.length : Int) := by omega
      by_cases hP : NeedP l[j]
      case neg =>
        have Hf := Lib.hid (Hno.out fun h2 => hP (h2 j hlt hlt).1)
        rw [yes_f hP] at HN
        clear hP Hno Hyes hgood hls Hwt Hk hbel hX hbX HB
        generalize l[j] = x at *
        go_wp2_with fail
        rw [← HX.out]
        refine wp_region_quiet_below (by kernel_rfl) (by kernel_rfl) ?_
        repeat (refine @wpQuiet_step _ _ _ _ _ _ _ ?_; intro K hK; go_simp; first | (refine hK _ ?_; clear hK K) | (apply Exists.intro; refine ⟨fun _ => ?_, hK _ ?_⟩; (first | (go_at_call 33; exact Calls.below_of (HN.out _))); clear hK K))
        refine wpQuiet_nil ?_
        intro _ hw'
        obtain ⟨p, rfl⟩ := hw'
        go_wp2_with fail
        go_ret
        exact ⟨by rw [Hf.out]; rfl, HW2.out p⟩
      rw [yes_t hP] at HN
      by_cases hz : j = 0
      · have Hg := Lib.hid (goodN_next hgood.out hlt hP (fun m hm => by omega))
        have hn0 : ¬ (0 : Int) < (j : Int) := by omega
        have hn1 : ¬ 0 < j := by omega
        clear hP Hno Hyes hgood hls Hwt Hk hz hbel hX hbX HB
        generalize l[j] = x at *
        go_wp2_with fail
        rw [← HX.out]
        refine wp_region_quiet_below (by kernel_rfl) (by kernel_rfl) ?_
        repeat (refine @wpQuiet_step _ _ _ _ _ _ _ ?_; intro K hK; go_simp; first | (refine hK _ ?_; clear hK K) | (apply Exists.intro; refine ⟨fun _ => ?_, hK _ ?_⟩; (first | (go_at_call 33; exact Calls.below_of (HN.out _))); clear hK K))
        refine wpQuiet_nil ?_
        intro _ hw'
        obtain ⟨p, rfl⟩ := hw'
        go_wp2_with fail
        go_roundw
        case rel => exact ⟨j + 1, by omega, by go_num, Hg.out, HW2.out p⟩
        case measure => simp [intOf]; omega
      obtain ⟨m, hm⟩ : ∃ m, m + 1 = j := ⟨j - 1, by omega⟩
      have hml : m < l.length := by omega
      obtain ⟨g', o', A3, c3, hA3, r0, r1, r2, hls2⟩ := el_at Hk.out hbel hml
      injection hA3 with hA3
      injection hA3 with e1 e2
      subst e1 e2
      have HC := Lib.hid (fun p : BelowBy X => gr_below (cmp_gr l[m] l[j] f' f' _ _ p.v (hls2 ⟨p.v, hbX.trans (p.h.mono hbX.size)⟩) (hls ⟨p.v, hbX.trans (p.h.mono hbX.size)⟩)))
      have R0 : ∀ p : BelowBy X, p.v.cell? ⟨g, o + m * 3, none⟩ = some (.string l[m].key) := fun p => r0 ⟨p.v, hbX.trans (p.h.mono hbX.size)⟩
      have R1 : ∀ p : BelowBy X, p.v.cell? ⟨g, o + m * 3 + 1, none⟩ = some (.int .i64 l[m].op) := fun p => r1 ⟨p.v, hbX.trans (p.h.mono hbX.size)⟩
      have R2 : ∀ p : BelowBy X, p.v.cell? ⟨g, o + m * 3 + 2, none⟩ = some (.slice A3 l[m].values.length c3) := fun p => r2 ⟨p.v, hbX.trans (p.h.mono hbX.size)⟩
      have hmi : (j : Int) - 1 = (m : Int) := by omega
      have hwm : IntKind.i64.wrap (m : Int) = (m : Int) := IntWalk.i64_in _ (by omega)
      have hm0 : (0 : Int) ≤ (m : Int) := by omega
      have hm1 : (m : Int) < (l.length : Int) := by omega
      have hjp : (0 : Int) < (j : Int) := by omega
      have hjp1 : 0 < j := by omega
      have hb := cmpN_less l[m] l[j]
      by_cases hr : cmpN l[m] l[j] < 0
      · rw [decide_eq_true hr] at hb
        have Hg := Lib.hid (goodN_next hgood.out hlt hP (fun m' hm' => by obtain rfl : m' = m := by omega
                                                                          exact hb.symm))
        have hr0 : ¬ (0 : Int) ≤ cmpN l[m] l[j] := by omega
        clear hP Hno Hyes hgood hls hls2 Hwt Hk hz hm hb hbel hX hbX HB r0 r1 r2
        generalize cmpN l[m] l[j] = r at HC hr0 hr
        generalize l[j] = x at *
        generalize l[m] = y at *
        go_wp2_with fail
        rw [← HX.out]
        refine wp_region_quiet_below (by kernel_rfl) (by kernel_rfl) ?_
        repeat (refine @wpQuiet_step _ _ _ _ _ _ _ ?_; intro K hK; go_simp; first | (refine hK _ ?_; clear hK K) | (apply Exists.intro; refine ⟨fun _ => ?_, hK _ ?_⟩; (first | (go_at_call 33; exact Calls.below_of (HN.out _)) | (go_at_call 28; exact Calls.below_of (HC.out _))); clear hK K))
        refine wpQuiet_nil ?_
        intro _ hw'
        obtain ⟨p, rfl⟩ := hw'
        go_wp2_with fail
        go_roundw
        case rel => exact ⟨j + 1, by omega, by go_num, Hg.out, HW2.out p⟩
        case measure => simp [intOf]; omega
      · rw [decide_eq_false hr] at hb
        have Hf := Lib.hid (Hno.out fun h2 => by
          have := (h2 j hlt hlt).2 m hm
          rw [← hb] at this; cases this)
        have hr0 : (0 : Int) ≤ cmpN l[m] l[j] := by omega
        clear hP Hno Hyes hgood hls hls2 Hwt Hk hz hm hb hbel hX hbX HB r0 r1 r2
        generalize cmpN l[m] l[j] = r at HC hr0 hr
        generalize l[j] = x at *
        generalize l[m] = y at *
        go_wp2_with fail
        rw [← HX.out]
        refine wp_region_quiet_below (by kernel_rfl) (by kernel_rfl) ?_
        repeat (refine @wpQuiet_step _ _ _ _ _ _ _ ?_; intro K hK; go_simp; first | (refine hK _ ?_; clear hK K) | (apply Exists.intro; refine ⟨fun _ => ?_, hK _ ?_⟩; (first | (go_at_call 33; exact Calls.below_of (HN.out _)) | (go_at_call 28; exact Calls.below_of (HC.out _))); clear hK K))
        refine wpQuiet_nil ?_
        intro _ hw'
        obtain ⟨p, rfl⟩ := hw'
        go_wp2_with fail
        go_ret
        exact ⟨by rw [Hf.out]; rfl, HW2.out p⟩
    · obtain rfl : j = l.length := by omega
      have Hf := Lib.hid (Hyes.out hgood.out)
      clear hgood hbel
      go_wp2_with fail
      go_ret
      exact ⟨by rw [Hf.out]; rfl, Hbel.out⟩
end Go.Proofs.YtjcfaepklakpkaaGreatDoor.need
namespace Go.Proofs.YtjcfaepklakpkaaGreatDoor.need
open Go.ChangeShapes Go.WideShapes Go.ChangeAt Go.RowKit ty lab
set_option linter.unusedVariables false

set_option maxRecDepth 100000 in
theorem impl_sel (l : List Need) (f : Nat) (v : Value) (w : World) (h : Lies w f v (.sl 3 l.length (l.flatMap Need.row))) (hw : l.length + wsum Need.wt l ≤ 1048576) :
    Calls Tryz.prog 12 #[v] w fun e w' => e = .returned (.bool (yes (SelP l))) ∧ Below w.heap.size w w' := by
  have HA := Lib.hid (impl_ascN l f v w h (fun j hj => by have := wsum_mem Need.wt hj; omega))
  obtain ⟨A, c, rfl, hc1, hc2, f', rfl, hk⟩ := els_of Need.row_length h
  unfold maxLen at hc2
  obtain ⟨R, hR⟩ : ∃ R, yes (SelP l) = R := ⟨_, rfl⟩
  rw [hR]
  have hcase : (¬ l.length ≤ 4 ∧ R = false) ∨ (l.length ≤ 4 ∧ R = yes (GoodN l l.length)) := by
    rw [← hR]
    by_cases h4 : l.length ≤ 4
    · refine .inr ⟨h4, ?_⟩
      by_cases hg : GoodN l l.length
      · rw [yes_t hg]; exact yes_t ⟨h4, hg⟩
      · rw [yes_f hg]; exact yes_f fun h => hg h.2
    · exact .inl ⟨h4, yes_f fun h => h4 h.1⟩
  clear h hk hR hw
  generalize yes (GoodN l l.length) = b at HA hcase
  rcases hcase with ⟨h4, hf⟩ | ⟨h4, hf⟩
  · have Hf := Lib.hid hf
    have g0 : ¬ (l.length : Int) ≤ 4 := by omega
    clear hf HA
    go_enter Tryz.func12, Tryz.ntmps12
    go_wp2_with fail
    go_ret
    exact ⟨by rw [Hf.out]; rfl, Below.refl _ _⟩
  · have Hf := Lib.hid hf
    have g0 : (l.length : Int) ≤ 4 := by omega
    clear hf
    go_enter Tryz.func12, Tryz.ntmps12
    go_wp2_with fail
    refine HA.out.mono ?_
    rintro e x1 ⟨rfl, hb⟩
    have B1 := Lib.hid hb
    clear hb
    go_wp2_with fail
    go_ret
    exact ⟨by rw [Hf.out]; rfl, B1.out⟩
end Go.Proofs.YtjcfaepklakpkaaGreatDoor.need
