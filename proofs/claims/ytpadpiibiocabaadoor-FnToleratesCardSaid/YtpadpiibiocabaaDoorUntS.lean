/- spec.Untolerated. -/
import Derived.Test.YtpadpiibiocabaaDoorTlrtS
import Derived.Test.YtpadpiibiocabaaDoorGTnP
import Derived.Test.YtpadpiibiocabaaDoorGFl
import Derived.Test.YtpadpiibiocabaaDoorGQ
import Derived.Test.YtpadpiibiocabaaDoorGSp
namespace Go.Proofs.YtpadpiibiocabaaDoor.taint
open Go.ChangeShapes Go.WideShapes Go.ChangeAt Go.RowKit ty lab need
set_option linter.unusedVariables false

set_option maxRecDepth 100000 in
set_option maxHeartbeats 32000000 in
theorem spec_untol (ls : List Tolerance) (xs : List Taint) (e : Int) (f1 f2 : Nat) (v1 v2 : Value) (w : World) (h1 : Lies w f1 v1 (.sl 4 ls.length (ls.flatMap Tolerance.row))) (h2 : Lies w f2 v2 (.sl 3 xs.length (xs.flatMap Taint.row)))
    (z1 : wsum Tolerance.wt ls ≤ 1048576) (z2 : wsum Taint.wt xs ≤ 1048576) :
    Calls Tryd.prog 17 #[v1, v2, .int .i64 e] w fun r w' => r = .returned (.int .i64 (unF ls xs e)) ∧ Below w.heap.size w w' := by
  obtain ⟨A1, c1, rfl, hc11, hc12, f1', rfl, hk1⟩ := els_of Tolerance.row_length h1
  obtain ⟨A2, c2, rfl, hc21, hc22, f2', rfl, hk2⟩ := els_of Taint.row_length h2
  unfold maxLen at hc12 hc22
  have Hk1 := Lib.hid hk1
  have Hk2 := Lib.hid hk2
  have Hz1 := Lib.hid (fun j (hj : j < ls.length) => Nat.le_trans (wsum_mem Tolerance.wt hj) z1)
  have Hz2 := Lib.hid (fun j (hj : j < xs.length) => Nat.le_trans (wsum_mem Taint.wt hj) z2)
  clear h1 h2 hk1 hk2 z1 z2
  go_enter Tryd.func17, Tryd.ntmps17
  go_wp2_with fail
  go_loopw [7, 8] (fun nv i wr => ∃ j n : Nat, j ≤ xs.length ∧ i = .int .i64 j ∧ nv = .int .i64 n ∧ n ≤ j ∧ Hid (unF ls (xs.take j) e = n) ∧ Below w.heap.size w wr) (fun _ i _ => xs.length - (intOf i).toNat)
  case atStart => exact ⟨0, 0, Nat.zero_le _, rfl, rfl, Nat.le_refl _, by unfold Hid; rfl, Below.refl _ _⟩
  case round =>
    obtain ⟨wo, rfl⟩ : ∃ wo, wo = wr := ⟨_, rfl⟩
    obtain ⟨j, n, hj, rfl, rfl, hnj, hun, hbel⟩ := hrel
    have Hbel := Lib.hid hbel
    by_cases hlt : j < xs.length
    · obtain ⟨g, o, rfl, hg, us, hus, hc, hls⟩ := (Hk2.out.below hbel).get hlt
      obtain ⟨rfl, hwf⟩ := Taint.opened hls
      have q2 : wo.cell? ⟨g, o + j * 3 + 2, none⟩ = some (.int .i64 xs[j].effect) := hc 2 _ rfl
      have X0 := Lib.hid (fun w' (hb : Below wo.heap.size wo w') => show w'.cell? ⟨g, o + j * 3, none⟩ = some (.string xs[j].key) from (World.cell?_of_block (hb.block g hg)).trans (hc 0 _ rfl))
      have X1 := Lib.hid (fun w' (hb : Below wo.heap.size wo w') => show w'.cell? ⟨g, o + j * 3 + 1, none⟩ = some (.string xs[j].value) from (World.cell?_of_block (hb.block g hg)).trans (hc 1 _ rfl))
      have X2 := Lib.hid (fun w' (hb : Below wo.heap.size wo w') => show w'.cell? ⟨g, o + j * 3 + 2, none⟩ = some (.int .i64 xs[j].effect) from (World.cell?_of_block (hb.block g hg)).trans (hc 2 _ rfl))
      have Hnx := Lib.hid (unF_next (l := ls) e hlt)
      have Hzx := Hz2.out j hlt
      have Hel := Lib.hid (fun w' (hb : Below wo.heap.size wo w') => Hk1.out.below (below_link hbel hb hbel.size))
      have hj0 : (0 : Int) ≤ (j : Int) := by omega
      have hjn : (j : Int) < (xs.length : Int) := by omega
      clear hc hls hus hwf hbel
      rw [keptBy_or] at Hnx
      obtain ⟨x, hx⟩ : ∃ x, x = xs[j] := ⟨_, rfl⟩
      rw [← hx] at q2 X0 X1 X2 Hnx Hzx
      clear hx
      obtain ⟨b0, hb0⟩ : ∃ b, (x.effect != e) = b := ⟨_, rfl⟩
      rw [hb0] at Hnx
      go_wp2_with fail
      go_loopw [9, 10] (fun okv kv wi => ∃ kk : Nat, kk ≤ ls.length ∧ kv = .int .i64 kk ∧ okv = .bool (b0 || anyT (ls.take kk) x) ∧ Below wo.heap.size wo wi) (fun _ kv _ => ls.length - (intOf kv).toNat)
      case atStart => exact ⟨0, Nat.zero_le _, rfl, by cases b0 <;> rfl, Below.refl _ _⟩
      case round =>
        obtain ⟨wi, rfl⟩ : ∃ wi, wi = wr := ⟨_, rfl⟩
        obtain ⟨kk, hkS, rfl, rfl, hwi⟩ := hrel
        have Hwi := Lib.hid hwi
        by_cases hkl : kk < ls.length
        · have Hok : Hid ((b0 || anyT (ls.take (kk + 1)) x) = ((b0 || anyT (ls.take kk) x) || tolF ls[kk] x)) := by
            unfold Hid
            rw [anyT_next hkl, Bool.or_assoc]
          have hk0 : (0 : Int) ≤ (kk : Int) := by omega
          have hk1' : (kk : Int) < (ls.length : Int) := by omega
          generalize (b0 || anyT (ls.take kk) x) = ok at Hok ⊢
          cases ok with
          | true =>
            clear hwi
            go_wp2_with fail
            go_quiet (fail)
            obtain ⟨wz, hwz⟩ : ∃ wz, wz = wi.drewN nq := ⟨_, rfl⟩
            have Hbz := Lib.hid (show Below wo.heap.size wo wz by rw [hwz]; exact below_drewN Hwi.out _)
            rw [← hwz]
            clear hwz
            go_wp2_with fail
            go_roundw
            case rel => exact ⟨kk + 1, by omega, by go_num, by rw [Hok.out]; rfl, Hbz.out⟩
            case measure => simp [intOf]; omega
          | false =>
            obtain ⟨g3, o3, rfl, hg3, us3, hus3, hc3, hls3⟩ := (Hel.out wi hwi).get hkl
            obtain ⟨rfl, hwf3⟩ := Tolerance.opened hls3
            have r0 : ∀ p : BelowBy wi, p.v.cell? ⟨g3, o3 + kk * 4, none⟩ = some (.string ls[kk].key) := fun p => p.cell hg3 (hc3 0 _ rfl)
            have r1 : ∀ p : BelowBy wi, p.v.cell? ⟨g3, o3 + kk * 4 + 1, none⟩ = some (.bool ls[kk].equal) := fun p => p.cell hg3 (hc3 1 _ rfl)
            have r2 : ∀ p : BelowBy wi, p.v.cell? ⟨g3, o3 + kk * 4 + 2, none⟩ = some (.string ls[kk].value) := fun p => p.cell hg3 (hc3 2 _ rfl)
            have r3 : ∀ p : BelowBy wi, p.v.cell? ⟨g3, o3 + kk * 4 + 3, none⟩ = some (.int .i64 ls[kk].effect) := fun p => p.cell hg3 (hc3 3 _ rfl)
            have e0 : ∀ p : BelowBy wi, p.v.cell? ⟨g, o + j * 3, none⟩ = some (.string x.key) := fun p => X0.out p.v (below_link hwi p.h hwi.size)
            have e1 : ∀ p : BelowBy wi, p.v.cell? ⟨g, o + j * 3 + 1, none⟩ = some (.string x.value) := fun p => X1.out p.v (below_link hwi p.h hwi.size)
            have e2 : ∀ p : BelowBy wi, p.v.cell? ⟨g, o + j * 3 + 2, none⟩ = some (.int .i64 x.effect) := fun p => X2.out p.v (below_link hwi p.h hwi.size)
            have HC := Lib.hid (fun p : BelowBy wi => spec_tlr ls[kk] x p.v (Hz1.out kk hkl) Hzx)
            clear hwi hc3 hls3 hus3 hwf3 q2 hb0
            generalize ls[kk] = t at *
            generalize tolF t x = r at HC Hok
            go_wp2_with fail
            refine wp_region_quiet_below (by kernel_rfl) (by kernel_rfl) ?_
            repeat (refine @wpQuiet_step _ _ _ _ _ _ _ ?_; intro K hK; go_simp; first | (refine hK _ ?_; clear hK K) | (apply Exists.intro; refine ⟨fun _ => ?_, hK _ ?_⟩; (go_at_call 19; exact Calls.below_of (HC.out _)); clear hK K))
            refine wpQuiet_nil ?_
            intro _ hw'
            obtain ⟨p, rfl⟩ := hw'
            have Hbz := Lib.hid (below_link Hwi.out p.h Hwi.out.size)
            go_wp2_with fail
            go_roundw
            case rel => exact ⟨kk + 1, by omega, by go_num, by rw [Hok.out]; cases r <;> rfl, Hbz.out⟩
            case measure => simp [intOf]; omega
        · obtain rfl : kk = ls.length := by omega
          rw [List.take_length]
          have Hbz := Lib.hid (below_link Hbel.out hwi Hbel.out.size)
          clear hwi q2 hb0
          generalize (b0 || anyT ls x) = ok at Hnx ⊢
          cases ok with
          | true =>
            have Hn2 : Hid (unF ls (xs.take (j + 1)) e = n) := by unfold Hid; rw [Hnx.out, hun.out]; simp
            go_wp2_with fail
            go_roundw
            case rel => exact ⟨j + 1, n, by omega, by go_num, rfl, by omega, Hn2.out, Hbz.out⟩
            case measure => simp [intOf]; omega
          | false =>
            have Hn2 : Hid (unF ls (xs.take (j + 1)) e = n + 1) := by unfold Hid; rw [Hnx.out, hun.out]; simp
            go_wp2_with fail
            go_roundw
            case rel => exact ⟨j + 1, n + 1, by omega, by go_num, by go_num, by omega, Hn2.out, Hbz.out⟩
            case measure => simp [intOf]; omega
    · obtain rfl : j = xs.length := by omega
      have Hn2 : Hid (unF ls xs e = n) := by have := hun.out; rw [List.take_length] at this; exact this
      clear hun hbel
      go_wp2_with fail
      go_ret
      exact ⟨by rw [Hn2.out]; rfl, Hbel.out⟩
end Go.Proofs.YtpadpiibiocabaaDoor.taint
