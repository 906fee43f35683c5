/- spec.ReadDecimal. -/
import Derived.Test.YtmknkpoihnpnkaaDoorReadNumM
import Derived.Test.YtmknkpoihnpnkaaDoorDecimalS
namespace Go.Proofs.YtmknkpoihnpnkaaDoor.readnum
open Go.ChangeShapes Go.WideShapes Go.ChangeAt Go.RowKit
set_option linter.unusedVariables false

theorem spec_any (s : ByteArray) (w : World) (hs : s.size ≤ maxLen) :
    Calls Tryd.prog 17 #[.string s] w fun e w' => e = .returned (.tuple #[.int .i64 (res 1000000000 s), .bool (flag 1000000000 s)]) ∧ Below w.heap.size w w' := by
  unfold maxLen at hs
  by_cases h1 : 10 < s.size
  · have hno : ∀ n, ¬ Num 1000000000 s n := fun n h => by have := num_len h 9 (by decide); omega
    have H1 := Lib.hid (no_flag hno)
    have H2 := Lib.hid (no_res hno)
    clear hno
    go_enter Tryd.func17, Tryd.ntmps17
    go_wp2_with fail
    go_ret2
    exact ⟨by rw [H1.out, H2.out]; rfl, Below.refl _ _⟩
  have h1' : s.size ≤ 10 := by omega
  clear h1
  go_enter Tryd.func17, Tryd.ntmps17
  go_wp2_with fail
  go_loop [4, 5] (fun a i => ∃ k : Nat, k ≤ s.size ∧ i = .int .i64 k ∧ a = .int .i64 (v s k) ∧ Hid (digs s k)) (fun _ i => s.size - (intOf i).toNat)
  case atStart => exact ⟨0, Nat.zero_le _, rfl, by rw [v_zero]; rfl, fun j hj => by omega⟩
  case round =>
    obtain ⟨k, hk, rfl, rfl, hd⟩ := hrel
    have hv := v_bd s k hk hd.out (by omega)
    by_cases hlt : k < s.size
    · have ha := at_eq s k hlt
      have hb := at_bd s k
      by_cases c1 : at_ s k < 48
      · have hno : ∀ n, ¬ Num 1000000000 s n := fun n h => by have := num_dig h k hlt; omega
        have H1 := Lib.hid (no_flag hno)
        have H2 := Lib.hid (no_res hno)
        clear hno
        go_wp2_with fail
        go_ret2
        exact ⟨by rw [H1.out, H2.out]; rfl, Below.refl _ _⟩
      by_cases c2 : 57 < at_ s k
      · have hno : ∀ n, ¬ Num 1000000000 s n := fun n h => by have := num_dig h k hlt; omega
        have H1 := Lib.hid (no_flag hno)
        have H2 := Lib.hid (no_res hno)
        clear hno
        go_wp2_with fail
        go_ret2
        exact ⟨by rw [H1.out, H2.out]; rfl, Below.refl _ _⟩
      have Hs := Lib.hid (v_step s k hlt (by omega))
      have Hd : Hid (digs s (k + 1)) := fun j hj => by
        by_cases e : j = k
        · subst e; omega
        · exact hd.out j (by omega)
      go_wp2_with fail
      go_round
      case rel => exact ⟨k + 1, by omega, by go_num, by rw [Hs.out], Hd⟩
      case measure => simp [intOf]; omega
    · obtain rfl : k = s.size := by omega
      by_cases c1 : 1000000000 < v s s.size
      · have hno : ∀ n, ¬ Num 1000000000 s n := fun n h => by have := num_v h; have := h.1; omega
        have H1 := Lib.hid (no_flag hno)
        have H2 := Lib.hid (no_res hno)
        clear hno
        go_wp2_with fail
        go_ret2
        exact ⟨by rw [H1.out, H2.out]; rfl, Below.refl _ _⟩
      have HD := Lib.hid (decimal.spec_any (v s s.size) w (by omega) (by omega))
      by_cases c2 : s.data.toList = Lib.decDigits (v s s.size)
      · have hn : Num 1000000000 s (v s s.size) := ⟨by omega, c2⟩
        have H1 := Lib.hid (yes_flag hn)
        have H2 := Lib.hid (yes_res hn)
        have hsame : (⟨(Lib.itoa (v s s.size : Int)).toArray⟩ : ByteArray) = s := by rw [num.itoa_nat, ← c2]
        have Hsame := Lib.hid hsame
        clear hn c2 hsame hd
        go_wp2_with fail
        refine HD.out.mono ?_
        rintro e w1 ⟨rfl, hb1⟩
        rw [Hsame.out]
        clear HD
        go_wp2_with fail
        go_ret2
        exact ⟨by rw [H1.out, H2.out]; rfl, hb1⟩
      · have hno : ∀ n, ¬ Num 1000000000 s n := fun n h => c2 (by rw [num_v h]; exact h.2)
        have H1 := Lib.hid (no_flag hno)
        have H2 := Lib.hid (no_res hno)
        have hne : Lib.itoa (v s s.size : Int) ≠ s.data.toList := by rw [num.itoa_nat]; exact fun e => c2 e.symm
        have Hne := Lib.hid hne
        clear hno c2 hne hd
        go_wp2_with fail
        refine HD.out.mono ?_
        rintro e w1 ⟨rfl, hb1⟩
        have hx : (Lib.itoa (v s s.size : Int) == s.toList) = false := by
          rw [ByteArray.toList_eq, beq_eq_false_iff_ne]; exact Hne.out
        clear HD
        go_wp2_with fail
        go_ret2
        exact ⟨by rw [H1.out, H2.out]; rfl, hb1⟩
end Go.Proofs.YtmknkpoihnpnkaaDoor.readnum
