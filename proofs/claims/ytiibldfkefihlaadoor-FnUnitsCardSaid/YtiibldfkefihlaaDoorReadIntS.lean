/- spec.ReadInt. -/
import Derived.Test.YtiibldfkefihlaaDoorReadNumM
import Derived.Test.YtiibldfkefihlaaDoorDecimalS
namespace Go.Proofs.YtiibldfkefihlaaDoor.readnum
open Go.ChangeShapes Go.WideShapes Go.ChangeAt Go.RowKit
set_option linter.unusedVariables false

theorem spec_int (s : ByteArray) (w : World) (hs : s.size ≤ maxLen) :
    Calls Tryd.prog 35 #[.string s] w fun e w' => e = .returned (.tuple #[.int .i64 (res 9223372036854775807 s), .bool (flag 9223372036854775807 s)]) ∧ Below w.heap.size w w' := by
  unfold maxLen at hs
  generalize hM : (9223372036854775807 : Nat) = M
  by_cases h1 : 19 < s.size
  · have hno : ∀ n, ¬ Num M s n := fun n h => by have := num_len h 18 (by rw [← hM]; decide); omega
    have H1 := Lib.hid (no_flag hno)
    have H2 := Lib.hid (no_res hno)
    clear hno hM
    go_enter Tryd.func35, Tryd.ntmps35
    go_wp2_with fail
    go_ret2
    exact ⟨by rw [H1.out, H2.out]; rfl, Below.refl _ _⟩
  have h1' : s.size ≤ 19 := by omega
  have hle : ∀ n, Num M s n → v s s.size ≤ 9223372036854775807 := fun n h => by rw [num_v h, hM]; exact h.1
  have Hle := Lib.hid hle
  have Hyes : Hid (∀ n, n ≤ 9223372036854775807 → s.data.toList = Lib.decDigits n → Num M s n) := fun n h1 h2 => ⟨by rw [← hM]; exact h1, h2⟩
  clear h1 hM hle
  go_enter Tryd.func35, Tryd.ntmps35
  go_wp2_with fail
  go_loop [4, 5] (fun a i => ∃ k : Nat, k ≤ s.size ∧ i = .int .i64 k ∧ a = .int .i64 (v s k) ∧ (v s k : Int) ≤ 9223372036854775807 ∧ Hid (digs s k)) (fun _ i => s.size - (intOf i).toNat)
  case atStart => exact ⟨0, Nat.zero_le _, rfl, by rw [v_zero]; rfl, by rw [v_zero]; decide, fun j hj => by omega⟩
  case round =>
    obtain ⟨k, hk, rfl, rfl, hv, hd⟩ := hrel
    by_cases hlt : k < s.size
    · have ha := at_eq s k hlt
      have hb := at_bd s k
      by_cases c1 : at_ s k < 48
      · have hno : ∀ n, ¬ Num M s n := fun n h => by have := num_dig h k hlt; omega
        have H1 := Lib.hid (no_flag hno)
        have H2 := Lib.hid (no_res hno)
        clear hno
        go_wp2_with fail
        go_ret2
        exact ⟨by rw [H1.out, H2.out]; rfl, Below.refl _ _⟩
      by_cases c2 : 57 < at_ s k
      · have hno : ∀ n, ¬ Num M s n := fun n h => by have := num_dig h k hlt; omega
        have H1 := Lib.hid (no_flag hno)
        have H2 := Lib.hid (no_res hno)
        clear hno
        go_wp2_with fail
        go_ret2
        exact ⟨by rw [H1.out, H2.out]; rfl, Below.refl _ _⟩
      have hst := v_step s k hlt (by omega)
      by_cases c3 : (9223372036854775807 - (at_ s k - 48)) / 10 < (v s k : Int)
      · have hno : ∀ n, ¬ Num M s n := fun n h => by
          have h1 := Hle.out n h
          have h2 : v s (k + 1) ≤ v s s.size := v_mono s (k + 1)
          omega
        have H1 := Lib.hid (no_flag hno)
        have H2 := Lib.hid (no_res hno)
        clear hno hst
        go_wp2_with fail
        go_ret2
        exact ⟨by rw [H1.out, H2.out]; rfl, Below.refl _ _⟩
      have Hv : Hid ((v s (k + 1) : Int) ≤ 9223372036854775807) := by unfold Hid; omega
      have Hs := Lib.hid hst
      clear hst
      have Hd : Hid (digs s (k + 1)) := fun j hj => by
        by_cases e : j = k
        · subst e; omega
        · exact hd.out j (by omega)
      go_wp2_with fail
      go_round
      case rel => exact ⟨k + 1, by omega, by go_num, by rw [Hs.out]; go_num, Hv.out, Hd⟩
      case measure => simp [intOf]; omega
    · obtain rfl : k = s.size := by omega
      have HD := Lib.hid (decimal.spec_any (v s s.size) w (by omega) (by omega))
      by_cases c2 : s.data.toList = Lib.decDigits (v s s.size)
      · have hn : Num M s (v s s.size) := Hyes.out _ (by omega) c2
        have H1 := Lib.hid (yes_flag hn)
        have H2 := Lib.hid (yes_res hn)
        have hsame : (⟨(Lib.itoa (v s s.size : Int)).toArray⟩ : ByteArray) = s := by rw [num.itoa_nat, ← c2]
        have Hsame := Lib.hid hsame
        clear hn c2 hsame hd
        go_wp2_with fail
        refine HD.out.mono ?_
        rintro e w1 ⟨rfl, hb1⟩
        rw [Hsame.out]
        clear HD
        go_wp2_with fail
        go_ret2
        exact ⟨by rw [H1.out, H2.out]; rfl, hb1⟩
      · have hno : ∀ n, ¬ Num M s n := fun n h => c2 (by rw [num_v h]; exact h.2)
        have H1 := Lib.hid (no_flag hno)
        have H2 := Lib.hid (no_res hno)
        have hne : Lib.itoa (v s s.size : Int) ≠ s.data.toList := by rw [num.itoa_nat]; exact fun e => c2 e.symm
        have Hne := Lib.hid hne
        clear hno c2 hne hd
        go_wp2_with fail
        refine HD.out.mono ?_
        rintro e w1 ⟨rfl, hb1⟩
        have hx : (Lib.itoa (v s s.size : Int) == s.toList) = false := by
          rw [ByteArray.toList_eq, beq_eq_false_iff_ne]; exact Hne.out
        clear HD
        go_wp2_with fail
        go_ret2
        exact ⟨by rw [H1.out, H2.out]; rfl, hb1⟩
end Go.Proofs.YtiibldfkefihlaaDoor.readnum
