/- Merged: AddS SumIntS AddI SumIntI. -/
import Derived.Test.YtcfbkfmkjggcdaaGA12
namespace Go.Proofs.Ytcfbkfmkjggcdaa.arith
open Go.ChangeShapes Go.WideShapes Go.ChangeAt Go.RowKit
set_option linter.unusedVariables false

theorem spec_add (a b : Int) (w : World) (ha : -9223372036854775808 ≤ a ∧ a ≤ 9223372036854775807) (hb : -9223372036854775808 ≤ b ∧ b ≤ 9223372036854775807) :
    Calls Try.prog 57 #[.int .i64 a, .int .i64 b] w fun e w' => e = .returned (two (addF a b)) ∧ w = w' := by
  by_cases h1 : a < 0
  · rw [add_no (by omega), two_none]
    go_enter Try.func57, Try.ntmps57
    go_wp2
    go_ret2
    exact ⟨rfl, rfl⟩
  by_cases h2 : b < 0
  · rw [add_no (by omega), two_none]
    go_enter Try.func57, Try.ntmps57
    go_wp2
    go_ret2
    exact ⟨rfl, rfl⟩
  by_cases h3 : 9223372036854775807 - b < a
  · rw [add_no (by omega), two_none]
    go_enter Try.func57, Try.ntmps57
    go_wp2
    go_ret2
    exact ⟨rfl, rfl⟩
  · rw [add_yes (by omega) (by omega) (by omega), two_some]
    go_enter Try.func57, Try.ntmps57
    go_wp2
    go_ret2
    exact ⟨rfl, rfl⟩
end Go.Proofs.Ytcfbkfmkjggcdaa.arith
namespace Go.Proofs.Ytcfbkfmkjggcdaa.arith
open Go.ChangeShapes Go.WideShapes Go.ChangeAt Go.RowKit
set_option linter.unusedVariables false

theorem spec_sumI (A : Option Addr) (n c : Nat) (l : List Int) (w : World) (hn : n ≤ maxLen) (hln : l.length = n) (h : Rd w A n (icells l)) (hw : ∀ x ∈ l, (Lit.int .i64 x).wf = true) :
    Calls Try.prog 39 #[.slice A n c] w fun e w' => e = .returned (two (sumF l)) ∧ w = w' := by
  unfold maxLen at hn
  have H := Lib.hid h
  have Hl := Lib.hid hln
  have Hw := Lib.hid hw
  have HA := Lib.hid (fun a x ha hx => spec_add a x w ha hx)
  clear h hln hw
  go_enter Try.func39, Try.ntmps39
  go_wp2_with fail
  go_loop [4, 5] (fun x i => ∃ (k : Nat) (y : Int), k ≤ n ∧ i = .int .i64 k ∧ x = .int .i64 y ∧ Hid (sumF (l.take k) = some y)) (fun _ i => n - (intOf i).toNat)
  case atStart => exact ⟨0, 0, Nat.zero_le _, rfl, rfl, sum_zero l⟩
  case round =>
    obtain ⟨k, y, hk, rfl, rfl, hp⟩ := hrel
    by_cases hlt : k < n
    · have hkl : k < l.length := by have := Hl.out; omega
      obtain ⟨g, o, rfl, _, hc⟩ := H.out.2 (by omega)
      have d : w.cell? ⟨g, o + k, none⟩ = some (.int .i64 (l.getD k 0)) := hc k hlt _ (icells_get l k hkl)
      clear hc
      have hx := i64_bd (Hw.out (l.getD k 0) (by rw [List.getD_eq_getElem?_getD, List.getElem?_eq_getElem hkl]; exact List.getElem_mem hkl))
      have hs := sum_go hkl hp.out
      have hy := sum_bd k (by omega) hp.out
      generalize l.getD k 0 = x at d hx hs
      cases ha : addF y x with
      | none =>
        have HD := Lib.hid (sum_dead (by rw [hs, ha]))
        have H1 := Lib.hid (HA.out y x (by omega) hx)
        rw [ha, two_none] at H1
        clear ha hs hkl
        go_wp2_with (go_at_call 57; refine H1.out.mono ?_; rintro e w1 ⟨rfl, rfl⟩)
        go_ret2
        exact ⟨by rw [HD.out]; rfl, rfl⟩
      | some z =>
        have HD : Hid (sumF (l.take (k + 1)) = some z) := by unfold Hid; rw [hs, ha]
        have H1 := Lib.hid (HA.out y x (by omega) hx)
        rw [ha, two_some] at H1
        clear ha hs hkl
        go_wp2_with (go_at_call 57; refine H1.out.mono ?_; rintro e w1 ⟨rfl, rfl⟩)
        go_round
        case rel => exact ⟨k + 1, z, by omega, by go_num, rfl, HD⟩
        case measure => simp [intOf]; omega
    · obtain rfl : k = n := by omega
      have hp2 := hp.out
      rw [List.take_of_length_le (by have := Hl.out; omega)] at hp2
      have Hp := Lib.hid hp2
      clear hp2
      go_wp2_with fail
      go_ret2
      exact ⟨by rw [Hp.out]; rfl, rfl⟩
end Go.Proofs.Ytcfbkfmkjggcdaa.arith
namespace Go.Proofs.Ytcfbkfmkjggcdaa.arith
open Go.ChangeShapes Go.WideShapes Go.ChangeAt Go.RowKit
set_option linter.unusedVariables false

theorem impl_add (a b : Int) (w : World) (ha : -9223372036854775808 ≤ a ∧ a ≤ 9223372036854775807) (hb : -9223372036854775808 ≤ b ∧ b ≤ 9223372036854775807) :
    Calls Try.prog 63 #[.int .i64 a, .int .i64 b] w fun e w' => e = .returned (two (addF a b)) ∧ w = w' := by
  by_cases h1 : a < 0
  · rw [add_no (by omega), two_none]
    go_enter Try.func63, Try.ntmps63
    go_wp2
    go_ret2
    exact ⟨rfl, rfl⟩
  by_cases h2 : b < 0
  · rw [add_no (by omega), two_none]
    go_enter Try.func63, Try.ntmps63
    go_wp2
    go_ret2
    exact ⟨rfl, rfl⟩
  by_cases h3 : 9223372036854775807 - b < a
  · rw [add_no (by omega), two_none]
    go_enter Try.func63, Try.ntmps63
    go_wp2
    go_ret2
    exact ⟨rfl, rfl⟩
  · rw [add_yes (by omega) (by omega) (by omega), two_some]
    go_enter Try.func63, Try.ntmps63
    go_wp2
    go_ret2
    exact ⟨rfl, rfl⟩
end Go.Proofs.Ytcfbkfmkjggcdaa.arith
namespace Go.Proofs.Ytcfbkfmkjggcdaa.arith
open Go.ChangeShapes Go.WideShapes Go.ChangeAt Go.RowKit
set_option linter.unusedVariables false

theorem sum_of (A : Option Addr) (n c : Nat) (l : List Int) (w : World) (hn : n ≤ maxLen) (hln : l.length = n) (h : Rd w A n (icells l)) (hw : ∀ x ∈ l, (Lit.int .i64 x).wf = true) :
    Calls Try.prog 58 #[.slice A n c] w fun e w' => e = .returned (two (sumF l)) ∧ w = w' := by
  unfold maxLen at hn
  have H := Lib.hid h
  have Hl := Lib.hid hln
  have Hw := Lib.hid hw
  have HA := Lib.hid (fun a x ha hx => impl_add a x w ha hx)
  clear h hln hw
  go_enter Try.func58, Try.ntmps58
  go_wp2_with fail
  go_loop [4, 10] (fun x i => ∃ (k : Nat) (y : Int), k ≤ n ∧ i = .int .i64 k ∧ x = .int .i64 y ∧ Hid (sumF (l.take k) = some y)) (fun _ i => n - (intOf i).toNat)
  case atStart => exact ⟨0, 0, Nat.zero_le _, rfl, rfl, sum_zero l⟩
  case round =>
    obtain ⟨k, y, hk, rfl, rfl, hp⟩ := hrel
    by_cases hlt : k < n
    · have hkl : k < l.length := by have := Hl.out; omega
      obtain ⟨g, o, rfl, _, hc⟩ := H.out.2 (by omega)
      have d : w.cell? ⟨g, o + k, none⟩ = some (.int .i64 (l.getD k 0)) := hc k hlt _ (icells_get l k hkl)
      clear hc
      have hx := i64_bd (Hw.out (l.getD k 0) (by rw [List.getD_eq_getElem?_getD, List.getElem?_eq_getElem hkl]; exact List.getElem_mem hkl))
      have hs := sum_go hkl hp.out
      have hy := sum_bd k (by omega) hp.out
      generalize l.getD k 0 = x at d hx hs
      cases ha : addF y x with
      | none =>
        have HD := Lib.hid (sum_dead (by rw [hs, ha]))
        have H1 := Lib.hid (HA.out y x (by omega) hx)
        rw [ha, two_none] at H1
        clear ha hs hkl
        go_wp2_with (go_at_call 63; refine H1.out.mono ?_; rintro e w1 ⟨rfl, rfl⟩)
        go_ret2
        exact ⟨by rw [HD.out]; rfl, rfl⟩
      | some z =>
        have HD : Hid (sumF (l.take (k + 1)) = some z) := by unfold Hid; rw [hs, ha]
        have H1 := Lib.hid (HA.out y x (by omega) hx)
        rw [ha, two_some] at H1
        clear ha hs hkl
        go_wp2_with (go_at_call 63; refine H1.out.mono ?_; rintro e w1 ⟨rfl, rfl⟩)
        go_round
        case rel => exact ⟨k + 1, z, by omega, by go_num, rfl, HD⟩
        case measure => simp [intOf]; omega
    · obtain rfl : k = n := by omega
      have hp2 := hp.out
      rw [List.take_of_length_le (by have := Hl.out; omega)] at hp2
      have Hp := Lib.hid hp2
      clear hp2
      go_wp2_with fail
      go_ret2
      exact ⟨by rw [Hp.out]; rfl, rfl⟩

theorem impl_sumI (A : Option Addr) (n c : Nat) (l : List Int) (w : World) (hn : n ≤ maxLen) (hln : l.length = n) (h : Rd w A n (icells l)) (hw : ∀ x ∈ l, (Lit.int .i64 x).wf = true) :
    Calls Try.prog 40 #[.slice A n c] w fun e w' => e = .returned (two (sumF l)) ∧ w = w' := by
  have HS := Lib.hid (sum_of A n c l w hn hln h hw)
  unfold two at HS
  generalize sumF l = o at HS ⊢
  clear h hln hw
  unfold two
  go_enter Try.func40, Try.ntmps40
  go_wp2_with fail
  refine HS.out.mono ?_
  rintro e w1 ⟨rfl, rfl⟩
  go_wp2_with fail
  go_ret2
  exact ⟨rfl, rfl⟩
end Go.Proofs.Ytcfbkfmkjggcdaa.arith
