/- impl.PowInt. -/
import Derived.Test.YtmknkpoihnpnkaaDoorMulI
namespace Go.Proofs.YtmknkpoihnpnkaaDoor.arith
open Go.ChangeShapes Go.WideShapes Go.ChangeAt Go.RowKit
set_option linter.unusedVariables false

theorem impl_pow (b n : Int) (w : World) (wb : -9223372036854775808 ≤ b ∧ b ≤ 9223372036854775807) (wn : -9223372036854775808 ≤ n ∧ n ≤ 9223372036854775807) :
    Calls Tryd.prog 10 #[.int .i64 b, .int .i64 n] w fun e w' => e = .returned (two (pow2F b n)) ∧ w = w' := by
  have HM := Lib.hid (fun a h w => impl_mul a b w h wb)
  by_cases h1 : b < 0
  · rw [pow2_no (by omega), two_none]
    go_enter Tryd.func10, Tryd.ntmps10
    go_wp2
    go_ret2
    exact ⟨rfl, rfl⟩
  by_cases h2 : n < 0
  · rw [pow2_no (by omega), two_none]
    go_enter Tryd.func10, Tryd.ntmps10
    go_wp2
    go_ret2
    exact ⟨rfl, rfl⟩
  by_cases h3 : 100 < n
  · rw [pow2_no (by omega), two_none]
    go_enter Tryd.func10, Tryd.ntmps10
    go_wp2
    go_ret2
    exact ⟨rfl, rfl⟩
  obtain ⟨m, rfl⟩ := Int.eq_ofNat_of_zero_le (show 0 ≤ n by omega)
  rw [pow2_yes (by omega) (by omega)]
  have hm : m ≤ 100 := by omega
  go_enter Tryd.func10, Tryd.ntmps10
  go_wp2
  go_loop [6, 7, 8] (fun x o i => ∃ (k : Nat) (y : Int) (g : Bool), k ≤ m ∧ i = .int .i64 k ∧ x = .int .i64 y ∧ o = .bool g ∧ Hid ((g = true ∧ powF b k = some y) ∨ (g = false ∧ y = 0 ∧ powF b m = none))) (fun _ _ i => m - (intOf i).toNat)
  case atStart => exact ⟨0, 1, true, Nat.zero_le _, rfl, rfl, rfl, .inl ⟨rfl, pow_zero b⟩⟩
  case round =>
    obtain ⟨k, y, g, hk, rfl, rfl, rfl, hp⟩ := hrel
    have hq := hp.out
    clear hp
    rcases hq with ⟨rfl, hq⟩ | ⟨rfl, rfl, hq⟩
    · have hy := pow_bd hq
      have Hp := Lib.hid hq
      clear hq
      by_cases hlt : k < m
      · cases hmul : mulF y b with
        | none =>
          have HD := Lib.hid (pow_dead (k := k + 1) (by rw [pow_some Hp.out, hmul]) m (by omega))
          have H1 := Lib.hid (HM.out y (by omega) w)
          rw [hmul, two_none] at H1
          clear hmul
          go_wp2_with (go_at_call 26; refine H1.out.mono ?_; rintro e w1 ⟨rfl, rfl⟩)
          go_round
          case rel => exact ⟨k + 1, 0, false, by omega, by go_num, rfl, rfl, .inr ⟨rfl, rfl, HD.out⟩⟩
          case measure => simp [intOf]; omega
        | some z =>
          have HD : Hid (powF b (k + 1) = some z) := by unfold Hid; rw [pow_some Hp.out, hmul]
          have H1 := Lib.hid (HM.out y (by omega) w)
          rw [hmul, two_some] at H1
          clear hmul
          go_wp2_with (go_at_call 26; refine H1.out.mono ?_; rintro e w1 ⟨rfl, rfl⟩)
          go_round
          case rel => exact ⟨k + 1, z, true, by omega, by go_num, rfl, rfl, .inl ⟨rfl, HD.out⟩⟩
          case measure => simp [intOf]; omega
      · obtain rfl : k = m := by omega
        go_wp2_with fail
        go_ret2
        exact ⟨by rw [Hp.out]; rfl, rfl⟩
    · have Hp := Lib.hid hq
      clear hq
      by_cases hlt : k < m
      · go_wp2_with fail
        go_ret2
        exact ⟨by rw [Hp.out]; rfl, rfl⟩
      · go_wp2_with fail
        go_ret2
        exact ⟨by rw [Hp.out]; rfl, rfl⟩
end Go.Proofs.YtmknkpoihnpnkaaDoor.arith
