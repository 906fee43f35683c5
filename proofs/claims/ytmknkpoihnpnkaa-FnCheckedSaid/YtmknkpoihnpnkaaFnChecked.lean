/- FnChecked: for every byte slice the law returns true. -/
import Derived.Test.YtmknkpoihnpnkaaDrawAdd
import Derived.Test.YtmknkpoihnpnkaaAddI
import Derived.Test.YtmknkpoihnpnkaaAddS
import Derived.Test.YtmknkpoihnpnkaaSubI
import Derived.Test.YtmknkpoihnpnkaaMulI
import Derived.Test.YtmknkpoihnpnkaaCmpI
import Derived.Test.YtmknkpoihnpnkaaSumI
import Derived.Test.YtmknkpoihnpnkaaBigL
namespace Go.Proofs.Ytmknkpoihnpnkaa.fnChecked
open Go.ChangeShapes Go.WideShapes Go.ChangeAt Go.RowKit
set_option linter.unusedVariables false

theorem sum_two (a b : Int) (ha : -9223372036854775808 ≤ a ∧ a ≤ 9223372036854775807) : arith.sumF [a, b] = arith.addF a b := by
  show (arith.addF 0 a).bind (fun s => arith.addF s b) = _
  by_cases h : 0 ≤ a
  · rw [arith.add_yes (by omega) h (by omega)]
    show arith.addF (0 + a) b = _
    rw [Int.zero_add]
  · rw [arith.add_no (by omega)]
    exact (arith.add_no (by omega)).symm
theorem cmp_swap (a b : Int) : arith.cmpF a b = -arith.cmpF b a := by
  unfold arith.cmpF
  repeat' split
  all_goals omega
theorem cmp_bd (a b : Int) : -1 ≤ arith.cmpF a b ∧ arith.cmpF a b ≤ 1 := by
  unfold arith.cmpF
  repeat' split
  all_goals omega
theorem cmp_up (a b : Int) (h : b ≤ a) : 0 ≤ arith.cmpF a b := by
  unfold arith.cmpF
  repeat' split
  all_goals omega
theorem cmp_one : arith.cmpF 2 1 = 1 := by decide
theorem list_rd (a b : Int) (w : World) : Rd (w.alloc (.cells #[.int .i64 a, .int .i64 b] 3)) (some ⟨w.heap.size, 0, none⟩) 2 (icells [a, b]) := by
  refine ⟨rfl, fun _ => ⟨w.heap.size, 0, rfl, by simp, fun j hj u hu => ?_⟩⟩
  have h := lit_cells w #[.int .i64 a, .int .i64 b] 3 j u hu
  rw [Addr.add_lit] at h
  exact h

set_option maxRecDepth 100000 in
set_option maxHeartbeats 16000000 in
theorem walk (A : Option Addr) (len cap : Nat) (zs : List Int) (W : World) (hr : IsRow .u8 W A len cap zs) :
    Calls Try.prog 3 #[.slice A len cap] W fun e w' => e = .returned (.bool true) ∧ Below W.heap.size W w' := by
  have hm := hr.le
  have hB := Lib.hid (lawBig.any A len cap W hm)
  unfold maxLen at hm
  by_cases h1 : 1048576 < len
  · clear hr
    go_enter Try.func3, Try.ntmps3
    go_wp2_with fail
    refine hB.out.mono ?_
    rintro e w1 ⟨rfl, rfl⟩
    go_wp2_with fail
    go_ret
    exact ⟨rfl, Below.refl _ _⟩
  have HD := Lib.hid (draw.add_any A len cap zs W hr (by omega))
  clear hr
  go_enter Try.func3, Try.ntmps3
  go_wp2_with fail
  refine hB.out.mono ?_
  rintro e w1 ⟨rfl, rfl⟩
  clear hB
  go_wp2_with fail
  refine HD.out.mono ?_
  clear HD
  rintro e w1 ⟨a, b, ha, hb, rfl, hb1⟩
  have ha0 : -9223372036854775808 ≤ a ∧ a ≤ 9223372036854775807 := ha
  have hb0 : -9223372036854775808 ≤ b ∧ b ≤ 9223372036854775807 := hb
  have HB := Lib.hid hb1
  have HI := Lib.hid (arith.impl_add a b w1 ha0 hb0)
  have HS := Lib.hid (arith.spec_add a b w1 ha0 hb0)
  have HM := Lib.hid (arith.impl_mul a b w1 ha0 hb0)
  have HU := Lib.hid (fun s h => arith.impl_sub s b w1 h hb0)
  have HC := Lib.hid (fun s => arith.impl_cmp s a w1)
  have HL := Lib.hid (arith.impl_sum (some ⟨w1.heap.size, 0, none⟩) 2 2 [a, b] (w1.alloc (.cells #[.int .i64 a, .int .i64 b] 3)) (by unfold maxLen; decide) rfl (list_rd a b w1)
    (by intro x hx; simp at hx; rcases hx with rfl | rfl <;> exact WalkArith.wf_i64 (by omega)))
  rw [sum_two a b ha0] at HL
  have HX := Lib.hid (fun w => arith.impl_cmp a b w)
  have HY := Lib.hid (fun w => arith.impl_cmp b a w)
  have HZ := Lib.hid (fun w => arith.impl_cmp 2 1 w)
  rw [cmp_one] at HZ
  rw [cmp_swap a b] at HX
  have hcb := cmp_bd b a
  generalize arith.cmpF b a = cb at HX HY hcb
  clear ha hb hb1
  cases hadd : arith.addF a b with
  | none =>
    rw [hadd, arith.two_none] at HI HS HL
    clear hadd HU HC
    cases hmul : arith.mulF a b with
    | none =>
      rw [hmul, arith.two_none] at HM
      clear hmul
      go_wp2_with fail
      ((with_reducible refine (HI.out).mono ?_); rintro e w2 ⟨rfl, rfl⟩)
      go_wp2_with fail
      ((with_reducible refine (HM.out).mono ?_); rintro e w2 ⟨rfl, rfl⟩)
      go_wp2_with fail
      ((with_reducible refine (HS.out).mono ?_); rintro e w2 ⟨rfl, rfl⟩)
      clear HI HM HS
      go_wp2_with fail
      refine HL.out.mono ?_
      rintro e w2 ⟨rfl, rfl⟩
      clear HL
      go_wp2_with fail
      ((with_reducible refine (HX.out _).mono ?_); rintro e w2 ⟨rfl, rfl⟩)
      go_wp2_with fail
      ((with_reducible refine (HY.out _).mono ?_); rintro e w2 ⟨rfl, rfl⟩)
      go_wp2_with fail
      ((with_reducible refine (HZ.out _).mono ?_); rintro e w2 ⟨rfl, rfl⟩)
      go_wp2_with fail
      go_ret
      exact ⟨rfl, HB.out.alloc HB.out.size _⟩
    | some p =>
      rw [hmul, arith.two_some] at HM
      obtain ⟨m0, m1, rfl, m2, m3⟩ := arith.mul_bd hmul
      clear hmul
      by_cases hz : a = 0
      · subst hz
        go_wp2_with fail
        ((with_reducible refine (HI.out).mono ?_); rintro e w2 ⟨rfl, rfl⟩)
        go_wp2_with fail
        ((with_reducible refine (HM.out).mono ?_); rintro e w2 ⟨rfl, rfl⟩)
        go_wp2_with fail
        ((with_reducible refine (HS.out).mono ?_); rintro e w2 ⟨rfl, rfl⟩)
        clear HI HM HS
        go_wp2_with fail
        refine HL.out.mono ?_
        rintro e w2 ⟨rfl, rfl⟩
        clear HL
        go_wp2_with fail
        ((with_reducible refine (HX.out _).mono ?_); rintro e w2 ⟨rfl, rfl⟩)
        go_wp2_with fail
        ((with_reducible refine (HY.out _).mono ?_); rintro e w2 ⟨rfl, rfl⟩)
        go_wp2_with fail
        ((with_reducible refine (HZ.out _).mono ?_); rintro e w2 ⟨rfl, rfl⟩)
        go_wp2_with fail
        go_ret
        exact ⟨rfl, HB.out.alloc HB.out.size _⟩
      have q1 : a * b / a = b := Int.mul_ediv_cancel_left b hz
      have q2 : a * b % a = 0 := Int.mul_emod_right a b
      have q0 : 0 < a := by omega
      generalize a * b = p at q1 q2 m2 m3 HM
      go_wp2_with fail
      ((with_reducible refine (HI.out).mono ?_); rintro e w2 ⟨rfl, rfl⟩)
      go_wp2_with fail
      ((with_reducible refine (HM.out).mono ?_); rintro e w2 ⟨rfl, rfl⟩)
      go_wp2_with fail
      ((with_reducible refine (HS.out).mono ?_); rintro e w2 ⟨rfl, rfl⟩)
      clear HI HM HS
      go_wp2_with fail
      refine HL.out.mono ?_
      rintro e w2 ⟨rfl, rfl⟩
      clear HL
      go_wp2_with fail
      ((with_reducible refine (HX.out _).mono ?_); rintro e w2 ⟨rfl, rfl⟩)
      go_wp2_with fail
      ((with_reducible refine (HY.out _).mono ?_); rintro e w2 ⟨rfl, rfl⟩)
      go_wp2_with fail
      ((with_reducible refine (HZ.out _).mono ?_); rintro e w2 ⟨rfl, rfl⟩)
      go_wp2_with fail
      go_ret
      exact ⟨rfl, HB.out.alloc HB.out.size _⟩
  | some s =>
    rw [hadd, arith.two_some] at HI HS HL
    obtain ⟨s0, s1, rfl, s2⟩ := arith.add_bd hadd
    clear hadd
    have HSub := Lib.hid (HU.out (a + b) (by omega))
    rw [arith.sub_yes s1 (by omega), show a + b - b = a by omega, arith.two_some] at HSub
    have HCs := Lib.hid (HC.out (a + b))
    have hcu := cmp_up (a + b) a (by omega)
    generalize arith.cmpF (a + b) a = cu at HCs hcu
    clear HU HC
    cases hmul : arith.mulF a b with
    | none =>
      rw [hmul, arith.two_none] at HM
      clear hmul
      go_wp2_with fail
      ((with_reducible refine (HI.out).mono ?_); rintro e w2 ⟨rfl, rfl⟩)
      go_wp2_with fail
      ((with_reducible refine (HM.out).mono ?_); rintro e w2 ⟨rfl, rfl⟩)
      go_wp2_with fail
      ((with_reducible refine (HS.out).mono ?_); rintro e w2 ⟨rfl, rfl⟩)
      clear HI HM HS
      go_wp2_with fail
      ((with_reducible refine (HSub.out).mono ?_); rintro e w2 ⟨rfl, rfl⟩)
      go_wp2_with fail
      ((with_reducible refine (HCs.out).mono ?_); rintro e w2 ⟨rfl, rfl⟩)
      clear HSub HCs
      go_wp2_with fail
      refine HL.out.mono ?_
      rintro e w2 ⟨rfl, rfl⟩
      clear HL
      go_wp2_with fail
      ((with_reducible refine (HX.out _).mono ?_); rintro e w2 ⟨rfl, rfl⟩)
      go_wp2_with fail
      ((with_reducible refine (HY.out _).mono ?_); rintro e w2 ⟨rfl, rfl⟩)
      go_wp2_with fail
      ((with_reducible refine (HZ.out _).mono ?_); rintro e w2 ⟨rfl, rfl⟩)
      go_wp2_with fail
      go_ret
      exact ⟨rfl, HB.out.alloc HB.out.size _⟩
    | some p =>
      rw [hmul, arith.two_some] at HM
      obtain ⟨m0, m1, rfl, m2, m3⟩ := arith.mul_bd hmul
      clear hmul
      by_cases hz : a = 0
      · subst hz
        rw [Int.zero_add] at HI HS HL HSub HCs
        go_wp2_with fail
        ((with_reducible refine (HI.out).mono ?_); rintro e w2 ⟨rfl, rfl⟩)
        go_wp2_with fail
        ((with_reducible refine (HM.out).mono ?_); rintro e w2 ⟨rfl, rfl⟩)
        go_wp2_with fail
        ((with_reducible refine (HS.out).mono ?_); rintro e w2 ⟨rfl, rfl⟩)
        clear HI HM HS
        go_wp2_with fail
        ((with_reducible refine (HSub.out).mono ?_); rintro e w2 ⟨rfl, rfl⟩)
        go_wp2_with fail
        ((with_reducible refine (HCs.out).mono ?_); rintro e w2 ⟨rfl, rfl⟩)
        clear HSub HCs
        go_wp2_with fail
        refine HL.out.mono ?_
        rintro e w2 ⟨rfl, rfl⟩
        clear HL
        go_wp2_with fail
        ((with_reducible refine (HX.out _).mono ?_); rintro e w2 ⟨rfl, rfl⟩)
        go_wp2_with fail
        ((with_reducible refine (HY.out _).mono ?_); rintro e w2 ⟨rfl, rfl⟩)
        go_wp2_with fail
        ((with_reducible refine (HZ.out _).mono ?_); rintro e w2 ⟨rfl, rfl⟩)
        go_wp2_with fail
        go_ret
        exact ⟨rfl, HB.out.alloc HB.out.size _⟩
      have q1 : a * b / a = b := Int.mul_ediv_cancel_left b hz
      have q2 : a * b % a = 0 := Int.mul_emod_right a b
      have q0 : 0 < a := by omega
      generalize a * b = p at q1 q2 m2 m3 HM
      go_wp2_with fail
      ((with_reducible refine (HI.out).mono ?_); rintro e w2 ⟨rfl, rfl⟩)
      go_wp2_with fail
      ((with_reducible refine (HM.out).mono ?_); rintro e w2 ⟨rfl, rfl⟩)
      go_wp2_with fail
      ((with_reducible refine (HS.out).mono ?_); rintro e w2 ⟨rfl, rfl⟩)
      clear HI HM HS
      go_wp2_with fail
      ((with_reducible refine (HSub.out).mono ?_); rintro e w2 ⟨rfl, rfl⟩)
      go_wp2_with fail
      ((with_reducible refine (HCs.out).mono ?_); rintro e w2 ⟨rfl, rfl⟩)
      clear HSub HCs
      go_wp2_with fail
      refine HL.out.mono ?_
      rintro e w2 ⟨rfl, rfl⟩
      clear HL
      go_wp2_with fail
      ((with_reducible refine (HX.out _).mono ?_); rintro e w2 ⟨rfl, rfl⟩)
      go_wp2_with fail
      ((with_reducible refine (HY.out _).mono ?_); rintro e w2 ⟨rfl, rfl⟩)
      go_wp2_with fail
      ((with_reducible refine (HZ.out _).mono ?_); rintro e w2 ⟨rfl, rfl⟩)
      go_wp2_with fail
      go_ret
      exact ⟨rfl, HB.out.alloc HB.out.size _⟩
end Go.Proofs.Ytmknkpoihnpnkaa.fnChecked
