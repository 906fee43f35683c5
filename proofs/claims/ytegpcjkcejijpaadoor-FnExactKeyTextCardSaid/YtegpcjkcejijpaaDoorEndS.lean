/- spec.l11Ends. -/
import Derived.Test.YtegpcjkcejijpaaDoorKeyM
import Derived.Test.YtegpcjkcejijpaaDoorRows
namespace Go.Proofs.YtegpcjkcejijpaaDoor.line
open Go.ChangeShapes Go.WideShapes Go.ChangeAt Go.RowKit
set_option linter.unusedVariables false

theorem spec_ends (s : ByteArray) (i : Nat) (w : World) (hs : s.size ≤ 1048576) (hi : i < s.size) :
    Calls Tryd.prog 12 #[.string s, .int .i64 i] w fun e w' => e = .returned (.bool (decide (ends s i))) ∧ w = w' := by
  have hat := at_eq s i hi
  by_cases c1 : at_ s i = 58
  · by_cases c2 : i + 1 = s.size
    · have H : Hid (decide (ends s i) = true) := decide_eq_true ⟨hi, c1, .inl c2⟩
      have hz : (i : Int) = (s.size : Int) - 1 := by omega
      rw [c1] at hat
      have e : ((i : Int) == (s.size : Int) - 1) = true := by rw [beq_iff_eq]; exact hz
      generalize decide (ends s i) = b at H ⊢
      clear c1 c2 hz
      go_enter Tryd.func12, Tryd.ntmps12
      go_wp2_with fail
      go_ret
      exact ⟨by rw [H.out]; rfl, rfl⟩
    · have hi2 : i + 1 < s.size := by omega
      have hat2 := at_eq s (i + 1) hi2
      have e : ((i : Int) == (s.size : Int) - 1) = false := by rw [beq_eq_false_iff_ne]; omega
      rw [c1] at hat
      by_cases c3 : at_ s (i + 1) = 32
      · have H : Hid (decide (ends s i) = true) := decide_eq_true ⟨hi, c1, .inr c3⟩
        generalize decide (ends s i) = b at H ⊢
        rw [c3] at hat2
        clear c1 c2 c3
        go_enter Tryd.func12, Tryd.ntmps12
        go_wp2_with fail
        go_ret
        exact ⟨by rw [H.out]; rfl, rfl⟩
      · have H : Hid (decide (ends s i) = false) := decide_eq_false fun h => by
          rcases h.2.2 with h | h
          · exact c2 h
          · exact c3 h
        have e3 : (at_ s (i + 1) == 32) = false := beq_eq_false_iff_ne.2 c3
        generalize decide (ends s i) = b at H ⊢
        clear c1 c2 c3
        go_enter Tryd.func12, Tryd.ntmps12
        go_wp2_with fail
        go_ret
        exact ⟨by rw [H.out]; rfl, rfl⟩
  · have H : Hid (decide (ends s i) = false) := decide_eq_false fun h => c1 h.2.1
    have e3 : (at_ s i == 58) = false := beq_eq_false_iff_ne.2 c1
    generalize decide (ends s i) = b at H ⊢
    clear c1
    go_enter Tryd.func12, Tryd.ntmps12
    go_wp2_with fail
    go_ret
    exact ⟨by rw [H.out]; rfl, rfl⟩
end Go.Proofs.YtegpcjkcejijpaaDoor.line
