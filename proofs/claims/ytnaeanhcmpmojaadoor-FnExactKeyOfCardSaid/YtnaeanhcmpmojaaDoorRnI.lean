/- impl.isSurrogate, impl.RuneOk, impl.RuneText. -/
import Derived.Test.YtnaeanhcmpmojaaDoorRuneM
import Derived.Test.YtnaeanhcmpmojaaDoorRows
import Derived.ProofKit
import Derived.OpenShut
import Derived.Laws.Runes
namespace Go.Proofs.YtnaeanhcmpmojaaDoor.rune
open Go.ChangeShapes Go.WideShapes Go.ChangeAt Go.RowKit
set_option linter.unusedVariables false

theorem impl_half (n : Int) (w : World) :
    Calls Tryd.prog 135 #[.int .i64 n] w fun e w' => e = .returned (.bool (decide (55296 ≤ n) && decide (n ≤ 57343))) ∧ w = w' := by
  by_cases h1 : 55296 ≤ n
  · by_cases h2 : n ≤ 57343
    · rw [decide_eq_true h1, decide_eq_true h2]
      go_enter Tryd.func135, Tryd.ntmps135
      go_wp2
      all_goals go_ret
      all_goals exact ⟨rfl, rfl⟩
    · have hd : decide (n ≤ 57343) = false := decide_eq_false h2
      rw [decide_eq_true h1, hd]
      go_enter Tryd.func135, Tryd.ntmps135
      go_wp2
      all_goals go_ret
      all_goals exact ⟨rfl, rfl⟩
  · have hd : decide (55296 ≤ n) = false := decide_eq_false h1
    rw [hd]
    go_enter Tryd.func135, Tryd.ntmps135
    go_wp2
    all_goals go_ret
    all_goals exact ⟨rfl, rfl⟩
theorem impl_ok (n : Int) (w : World) :
    Calls Tryd.prog 123 #[.int .i64 n] w fun e w' => e = .returned (.bool (okR n)) ∧ w = w' := by
  have HH := Lib.hid (fun w => impl_half n w)
  generalize hF : okR n = F
  unfold okR at hF
  generalize (decide (55296 ≤ n) && decide (n ≤ 57343)) = x at HH hF
  by_cases h1 : 0 ≤ n
  · by_cases h2 : n ≤ 1114111
    · rw [decide_eq_true h1, decide_eq_true h2] at hF
      subst hF
      go_enter Tryd.func123, Tryd.ntmps123
      go_wp2_with fail
      refine (HH.out _).mono ?_
      rintro e w1 ⟨rfl, rfl⟩
      go_wp2_with fail
      go_ret
      exact ⟨rfl, rfl⟩
    · have hd : decide (n ≤ 1114111) = false := decide_eq_false h2
      rw [decide_eq_true h1, hd] at hF
      subst hF
      go_enter Tryd.func123, Tryd.ntmps123
      go_wp2_with fail
      go_ret
      exact ⟨rfl, rfl⟩
  · have hd : decide (0 ≤ n) = false := decide_eq_false h1
    rw [hd] at hF
    subst hF
    go_enter Tryd.func123, Tryd.ntmps123
    go_wp2_with fail
    go_ret
    exact ⟨rfl, rfl⟩

theorem impl_text (n : Int) (w : World) :
    Calls Tryd.prog 106 #[.int .i64 n] w fun e w' => e = .returned (.string (textF n)) ∧ w = w' := by
  have HO := Lib.hid (fun w => impl_ok n w)
  cases ho : okR n with
  | false =>
    rw [ho] at HO
    rw [text_no ho]
    clear ho
    go_enter Tryd.func106, Tryd.ntmps106
    go_wp2_with fail
    refine (HO.out _).mono ?_
    rintro e w1 ⟨rfl, rfl⟩
    go_wp2_with fail
    go_ret
    exact ⟨rfl, rfl⟩
  | true =>
    rw [ho] at HO
    obtain ⟨h0, h1, h2⟩ := (okR_iff n).1 ho
    have HE := Lib.hid (encode_text ho)
    have e1 : IntKind.i32.wrap n = n := by rw [IntKind.wrap_i32]; omega
    clear ho h2
    go_enter Tryd.func106, Tryd.ntmps106
    go_wp2_with fail
    refine (HO.out _).mono ?_
    rintro e w1 ⟨rfl, rfl⟩
    go_wp2_with fail
    go_ret
    exact ⟨by rw [← HE.out]; rfl, rfl⟩
end Go.Proofs.YtnaeanhcmpmojaaDoor.rune
