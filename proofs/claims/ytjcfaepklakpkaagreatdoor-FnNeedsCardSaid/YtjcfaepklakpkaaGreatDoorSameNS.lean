/- spec.SameNeeds. -/
import Derived.Test.YtjcfaepklakpkaaGreatDoorGNS
namespace Go.Proofs.YtjcfaepklakpkaaGreatDoor.need
open Go.ChangeShapes Go.WideShapes Go.ChangeAt Go.RowKit ty lab
set_option linter.unusedVariables false
set_option maxRecDepth 100000 in
set_option maxHeartbeats 16000000 in
theorem spec_sameN (a b : List Need) (f1 f2 : Nat) (v1 v2 : Value) (w : World) (h1 : Lies w f1 v1 (.sl 3 a.length (a.flatMap Need.row))) (h2 : Lies w f2 v2 (.sl 3 b.length (b.flatMap Need.row))) :
    Calls Tryz.prog 9 #[v1, v2] w fun e w' => e = .returned (.bool (yes (SameNP a b))) ∧ Below w.heap.size w w' := by
  obtain ⟨A1, c1, rfl, hc1, hm1, f', rfl, hk1⟩ := els_of Need.row_length h1
  obtain ⟨A2, c2, rfl, hc2, hm2, f'', rfl, hk2⟩ := els_of Need.row_length h2
  unfold maxLen at hm1 hm2
  obtain ⟨R, hR⟩ : ∃ R, yes (SameNP a b) = R := ⟨_, rfl⟩
  rw [hR]
  have Hno : Hid (¬ SameNP a b → R = false) := fun h => by rw [← hR]; exact yes_f h
  have Hyes : Hid (SameNP a b → R = true) := fun h => by rw [← hR]; exact yes_t h
  have Hk1 := Lib.hid hk1
  have Hk2 := Lib.hid hk2
  clear h1 h2 hk1 hk2 hR
  by_cases hl : a.length = b.length
  case neg =>
    have Hf := Lib.hid (Hno.out fun h => hl h.1)
    have hn : ((a.length : Int) != (b.length : Int)) = true := bne_iff_ne.2 (by omega)
    clear hl Hno Hyes
    go_enter Tryz.func9, Tryz.ntmps9
    go_wp2_with fail
    go_ret
    exact ⟨by rw [Hf.out]; rfl, Below.refl _ _⟩
  obtain ⟨n, hn⟩ : ∃ n, n = a.length := ⟨_, rfl⟩
  have hb : b.length = n := by omega
  rw [← hn] at hc1
  rw [hb] at hc2
  rw [← hn, hb]
  have Hn := Lib.hid hn
  have Hb := Lib.hid hb
  clear hn hb hl
  go_enter Tryz.func9, Tryz.ntmps9
  go_wp2_with fail
  go_loopw [5] (fun i wr => ∃ j : Nat, j ≤ n ∧ i = .int .i64 j ∧ Hid (SameTo a b j) ∧ Below w.heap.size w wr) (fun i _ => n - (intOf i).toNat)
  case atStart => exact ⟨0, Nat.zero_le _, rfl, fun i _ _ h => by omega, Below.refl _ _⟩
  case round =>
    obtain ⟨j, hj, rfl, hall, hbel⟩ := hrel
    have Hbel := Lib.hid hbel
    by_cases hlt : j < n
    · have hla : j < a.length := by rw [← Hn.out]; exact hlt
      have hlb : j < b.length := by rw [Hb.out]; exact hlt
      obtain ⟨g1, o1, A3, d3, rfl, q0, q1, q2, ls1⟩ := el_at Hk1.out hbel hla
      obtain ⟨g2, o2, A4, d4, rfl, r0, r1, r2, ls2⟩ := el_at Hk2.out hbel hlb
      have H1 := Lib.hid (fun p : BelowBy wr => spec_less a[j] b[j] f' f'' _ _ p.v (ls1 p) (ls2 p))
      have H2 := Lib.hid (fun p : BelowBy wr => spec_less b[j] a[j] f'' f' _ _ p.v (ls2 p) (ls1 p))
      have hj0 : (0 : Int) ≤ (j : Int) := by omega
      have hjn : (j : Int) < (n : Int) := by omega
      by_cases he : a[j] = b[j]
      · have Hnx : Hid (SameTo a b (j + 1)) := fun i i1 i2 h => by
          by_cases e : i = j
          · subst e; exact he
          · exact hall.out i i1 i2 (by omega)
        rw [he, lessN_irr] at H1 H2
        rw [he] at q0 q1 q2
        clear he hall ls1 ls2 Hno Hyes Hk1 Hk2
        generalize b[j] = x at q0 q1 q2 r0 r1 r2 H1 H2
        clear hla hlb
        go_wp2_with fail
        refine wp_region_quiet_below (by kernel_rfl) (by kernel_rfl) ?_
        repeat (refine @wpQuiet_step _ _ _ _ _ _ _ ?_; intro K hK; go_simp; first | (refine hK _ ?_; clear hK K) | (apply Exists.intro; refine ⟨fun _ => ?_, hK _ ?_⟩; (go_at_call 31; exact Calls.below_of (H1.out _)); clear hK K H1))
        repeat (refine @wpQuiet_step _ _ _ _ _ _ _ ?_; intro K hK; go_simp; first | (refine hK _ ?_; clear hK K) | (apply Exists.intro; refine ⟨fun _ => ?_, hK _ ?_⟩; (go_at_call 31; exact Calls.below_of (H2.out _)); clear hK K H2))
        refine wpQuiet_nil ?_
        intro _ hw'
        obtain ⟨p, rfl⟩ := hw'
        go_wp2_with fail
        go_roundw
        case rel => exact ⟨j + 1, by omega, by go_num, Hnx.out, Hbel.out.trans (p.h.mono Hbel.out.size)⟩
        case measure => simp [intOf]; omega
      · have Hf := Lib.hid (Hno.out fun h => he (h.2 j hla hlb hla))
        cases hb1 : lessN a[j] b[j] with
        | true =>
          rw [hb1] at H1
          clear he hall ls1 ls2 Hno Hyes Hk1 Hk2 hb1 H2
          generalize a[j] = x at q0 q1 q2 H1
          generalize b[j] = y at r0 r1 r2 H1
          go_wp2_with fail
          refine wp_region_quiet_below (by kernel_rfl) (by kernel_rfl) ?_
          repeat (refine @wpQuiet_step _ _ _ _ _ _ _ ?_; intro K hK; go_simp; first | (refine hK _ ?_; clear hK K) | (apply Exists.intro; refine ⟨fun _ => ?_, hK _ ?_⟩; (go_at_call 31; exact Calls.below_of (H1.out _)); clear hK K))
          refine wpQuiet_nil ?_
          intro _ hw'
          obtain ⟨p, rfl⟩ := hw'
          go_wp2_with fail
          go_ret
          exact ⟨by rw [Hf.out]; rfl, Hbel.out.trans (p.h.mono Hbel.out.size)⟩
        | false =>
          have hb2 : lessN b[j] a[j] = true := by
            cases h : lessN b[j] a[j] with
            | true => rfl
            | false => exact absurd (lessN_total _ _ hb1 h) he
          rw [hb1] at H1
          rw [hb2] at H2
          clear he hall ls1 ls2 Hno Hyes Hk1 Hk2 hb1 hb2
          generalize a[j] = x at q0 q1 q2 H1 H2
          generalize b[j] = y at r0 r1 r2 H1 H2
          go_wp2_with fail
          refine wp_region_quiet_below (by kernel_rfl) (by kernel_rfl) ?_
          repeat (refine @wpQuiet_step _ _ _ _ _ _ _ ?_; intro K hK; go_simp; first | (refine hK _ ?_; clear hK K) | (apply Exists.intro; refine ⟨fun _ => ?_, hK _ ?_⟩; (go_at_call 31; exact Calls.below_of (H1.out _)); clear hK K H1))
          repeat (refine @wpQuiet_step _ _ _ _ _ _ _ ?_; intro K hK; go_simp; first | (refine hK _ ?_; clear hK K) | (apply Exists.intro; refine ⟨fun _ => ?_, hK _ ?_⟩; (go_at_call 31; exact Calls.below_of (H2.out _)); clear hK K H2))
          refine wpQuiet_nil ?_
          intro _ hw'
          obtain ⟨p, rfl⟩ := hw'
          go_wp2_with fail
          go_ret
          exact ⟨by rw [Hf.out]; rfl, Hbel.out.trans (p.h.mono Hbel.out.size)⟩
    · obtain rfl : j = n := by omega
      have Hf : Hid (R = true) := Hyes.out ⟨by rw [Hb.out, Hn.out], by rw [← Hn.out]; exact hall.out⟩
      clear hall hbel
      go_wp2_with fail
      go_ret
      exact ⟨by rw [Hf.out]; rfl, Hbel.out⟩
end Go.Proofs.YtjcfaepklakpkaaGreatDoor.need
