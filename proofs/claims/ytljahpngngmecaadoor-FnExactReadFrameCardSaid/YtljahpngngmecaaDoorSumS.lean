/- spec.SumMore, spec.SumOf. -/
import Derived.Test.YtljahpngngmecaaDoorSumM
import Derived.Test.YtljahpngngmecaaDoorInS
namespace Go.Proofs.YtljahpngngmecaaDoor.crc
open Go.ChangeShapes Go.WideShapes Go.ChangeAt Go.RowKit
set_option linter.unusedVariables false

theorem quo2 (q : Nat) : (q : Int).tdiv 2 = ((q / 2 : Nat) : Int) := by rw [Int.tdiv_eq_ediv_of_nonneg (by omega)]; omega
theorem rem2 (q : Nat) : (q : Int).tmod 2 = ((q % 2 : Nat) : Int) := by rw [Int.tmod_eq_emod_of_nonneg (by omega)]; omega
theorem rem_even {q : Nat} (h : q % 2 = 0) : (q : Int) % 2 = 0 := by omega
theorem rem_odd {q : Nat} (h : q % 2 = 1) : (q : Int) % 2 = 1 := by omega

set_option maxRecDepth 100000 in
theorem spec_more_in (r : Nat) (s : ByteArray) (w : World) (hs : s.size ≤ maxLen) (hr : r < 4294967296) :
    Calls Tryd.prog 55 #[.int .i64 r, .string s] w fun e w' => e = .returned (.int .i64 (moreF r s)) ∧ w = w' := by
  have hm := hs
  unfold maxLen at hm
  have HI := Lib.hid (fun w => arith.in_yes r 0 4294967295 w (by omega) (by omega))
  rw [moreF_nat r s hr, ← pre_all]
  go_enter Tryd.func55, Tryd.ntmps55
  go_wp2_with fail
  refine (HI.out _).mono ?_
  rintro e w1 ⟨rfl, rfl⟩
  clear HI
  go_wp2_with fail
  go_loop [0, 5] (fun x j => ∃ i : Nat, i ≤ s.size ∧ j = .int .i64 i ∧ x = .int .i64 (pre r s i : Nat)) (fun _ j => s.size - (intOf j).toNat)
  case atStart => exact ⟨0, Nat.zero_le _, rfl, rfl⟩
  case round =>
    obtain ⟨i, hi, rfl, rfl⟩ := hrel
    by_cases hlt : i < s.size
    · have Hp := Lib.hid (pre_succ r s i hlt)
      have hp := pre_lt s i hr
      generalize pre r s i = p at Hp hp
      have hg := s[i].toNat_lt
      have hx := xor_int p s[i].toNat hp (by omega)
      have hxl := xor_lt (b := s[i].toNat) hp (by omega)
      generalize hgn : s[i].toNat = g at Hp hg hx hxl
      unfold step at Hp
      generalize p ^^^ g = q at Hp hx hxl
      go_wp2_with fail
      go_loop [0, 6] (fun x j => ∃ k : Nat, k ≤ 8 ∧ j = .int .i64 k ∧ x = .int .i64 (Zk k q : Nat)) (fun _ j => 8 - (intOf j).toNat)
      case atStart => exact ⟨0, by omega, rfl, rfl⟩
      case round =>
        obtain ⟨k, hk, rfl, rfl⟩ := hrel
        have hzl := Zk_lt k hxl
        by_cases hlt2 : k < 8
        · have Hz := Lib.hid (Zk_succ k q)
          generalize Zk k q = z at Hz hzl
          have e1 := quo2 z
          have e2 := rem2 z
          rcases Nat.mod_two_eq_zero_or_one z with ho | ho
          · rw [ho] at e2
            rw [Z_even ho] at Hz
            go_wp2_with fail
            go_round
            case rel => exact ⟨k + 1, by omega, by go_num, by rw [Hz.out, Int.natCast_ediv]; rfl⟩
            case measure => simp [intOf]; omega
          · rw [ho] at e2
            rw [Z_odd ho] at Hz
            have e3 := xor_half z (by omega)
            go_wp2_with fail
            go_round
            case rel => exact ⟨k + 1, by omega, by go_num, by rw [Hz.out]⟩
            case measure => simp [intOf]; omega
        · obtain rfl : k = 8 := by omega
          go_wp2_with fail
          go_round
          case rel => exact ⟨i + 1, by omega, by go_num, by rw [Hp.out]⟩
          case measure => simp [intOf]; omega
    · obtain rfl : i = s.size := by omega
      go_wp2_with fail
      go_ret
      exact ⟨rfl, rfl⟩
theorem spec_more (n : Int) (s : ByteArray) (w : World) (hs : s.size ≤ maxLen) :
    Calls Tryd.prog 55 #[.int .i64 n, .string s] w fun e w' => e = .returned (.int .i64 (moreF n s)) ∧ Below w.heap.size w w' := by
  by_cases h : 0 ≤ n ∧ n ≤ 4294967295
  · obtain ⟨r, rfl⟩ := Int.eq_ofNat_of_zero_le h.1
    refine (spec_more_in r s w hs (by omega)).mono ?_
    rintro e w1 ⟨rfl, rfl⟩
    exact ⟨rfl, Below.refl _ _⟩
  · have HI := Lib.hid (fun w => arith.in_no n 0 4294967295 w (by omega))
    rw [moreF_no s (by omega)]
    clear h
    go_enter Tryd.func55, Tryd.ntmps55
    go_wp2_with fail
    refine (HI.out _).mono ?_
    rintro e w1 ⟨rfl, rfl⟩
    clear HI
    go_wp2_with fail
    go_ret
    exact ⟨rfl, Below.refl _ _⟩
theorem spec_sum (s : ByteArray) (w : World) (hs : s.size ≤ maxLen) :
    Calls Tryd.prog 47 #[.string s] w fun e w' => e = .returned (.int .i64 (sumF s)) ∧ Below w.heap.size w w' := by
  have HM := Lib.hid (fun w => spec_more 4294967295 s w hs)
  have e := sumF_eq s
  generalize moreF 4294967295 s = m at HM e
  generalize sumF s = r at e
  go_enter Tryd.func47, Tryd.ntmps47
  go_wp2_with fail
  refine (HM.out _).mono ?_
  rintro e w1 ⟨rfl, hb⟩
  clear HM
  go_wp2_with fail
  go_ret
  exact ⟨rfl, hb⟩
end Go.Proofs.YtljahpngngmecaaDoor.crc
