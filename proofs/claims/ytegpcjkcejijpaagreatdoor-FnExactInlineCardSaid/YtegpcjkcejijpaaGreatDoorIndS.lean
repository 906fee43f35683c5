/- spec.IndentOf. -/
import Derived.Test.YtegpcjkcejijpaaGreatDoorGLine
import Derived.Test.YtegpcjkcejijpaaGreatDoorRows
namespace Go.Proofs.YtegpcjkcejijpaaGreatDoor.line
open Go.ChangeShapes Go.WideShapes Go.ChangeAt Go.RowKit
set_option linter.unusedVariables false

theorem spec_ind (s : ByteArray) (w : World) (hs : s.size ≤ maxLen) :
    Calls Tryz.prog 78 #[.string s] w fun e w' => e = .returned (.int .i64 (ind s)) ∧ w = w' := by
  unfold maxLen at hs
  go_enter Tryz.func78, Tryz.ntmps78
  go_wp2_with fail
  go_loop [3] (fun i => ∃ k : Nat, i = .int .i64 k ∧ k ≤ s.size ∧ Hid (k ≤ ind s)) (fun i => s.size - (intOf i).toNat)
  case atStart => exact ⟨0, rfl, Nat.zero_le _, Nat.zero_le _⟩
  case round =>
    obtain ⟨k, rfl, hk, hl⟩ := hrel
    have hend : s.size ≤ k ∨ at_ s k ≠ 32 → Hid (ind s = k) := fun h => ind_end hl.out h
    have hgo : k < s.size → at_ s k = 32 → Hid (k + 1 ≤ ind s) := fun h h1 => ind_go hl.out h h1
    by_cases hlt : k < s.size
    · have ha := at_eq s k hlt
      by_cases c1 : at_ s k = 32
      · have Hg := hgo hlt c1
        rw [c1] at ha
        clear hend hgo c1
        go_wp2_with fail
        go_round
        case rel => exact ⟨k + 1, by go_num, by omega, Hg⟩
        case measure => simp [intOf]; omega
      · have He := hend (.inr c1)
        have c2 : (at_ s k == 32) = false := by simpa using c1
        clear hend hgo c1
        go_wp2_with fail
        go_ret
        exact ⟨by rw [He.out]; rfl, rfl⟩
    · have He := hend (.inl (by omega))
      clear hend hgo
      go_wp2_with fail
      go_ret
      exact ⟨by rw [He.out]; rfl, rfl⟩
end Go.Proofs.YtegpcjkcejijpaaGreatDoor.line
