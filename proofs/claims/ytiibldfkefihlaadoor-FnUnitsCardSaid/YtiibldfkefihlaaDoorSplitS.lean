/- spec.SplitAmount. -/
import Derived.Test.YtiibldfkefihlaaDoorSplitM
namespace Go.Proofs.YtiibldfkefihlaaDoor.split
open Go.ChangeShapes Go.WideShapes Go.ChangeAt Go.RowKit
set_option linter.unusedVariables false

theorem spec_any (s : ByteArray) (w : World) (hs : s.size ≤ maxLen) :
    Calls Tryd.prog 20 #[.string s] w fun e w' => e = .returned (.tuple #[.string (fst s), .string (snd s)]) ∧ Below w.heap.size w w' := by
  unfold maxLen at hs
  go_enter Tryd.func20, Tryd.ntmps20
  go_wp2_with fail
  go_loop [4] (fun i => ∃ k : Nat, k ≤ s.size ∧ i = .int .i64 k ∧ Hid (k ≤ lead s)) (fun i => s.size - (intOf i).toNat)
  case atStart => exact ⟨0, Nat.zero_le _, rfl, Nat.zero_le _⟩
  case round =>
    obtain ⟨k, hk, rfl, hl⟩ := hrel
    have hend : k = s.size ∨ at_ s k < 48 ∨ 57 < at_ s k → Hid (lead s = k) := fun h => lead_end hl.out h
    have hgo : k < s.size → 48 ≤ at_ s k → at_ s k ≤ 57 → Hid (k + 1 ≤ lead s) := fun h h1 h2 => lead_go hl.out h h1 h2
    have Hres : Hid (lead s = k → s.extract 0 k = fst s ∧ s.extract k s.size = snd s) := fun h => by unfold fst snd; rw [h]; exact ⟨rfl, rfl⟩
    by_cases hlt : k < s.size
    · have ha := at_eq s k hlt
      have hb := at_bd s k
      by_cases c1 : at_ s k < 48
      · have He := hend (.inr (.inl c1))
        clear hend hgo
        go_wp2_with fail
        go_quiet (fail)
        go_wp2_with fail
        go_ret2
        exact ⟨by rw [(Hres.out He.out).1, (Hres.out He.out).2]; rfl, below_drewN (Below.refl _ _) _⟩
      by_cases c2 : 57 < at_ s k
      · have He := hend (.inr (.inr c2))
        clear hend hgo
        go_wp2_with fail
        go_quiet (fail)
        go_wp2_with fail
        go_ret2
        exact ⟨by rw [(Hres.out He.out).1, (Hres.out He.out).2]; rfl, below_drewN (Below.refl _ _) _⟩
      · have Hg := hgo hlt (by omega) (by omega)
        clear hend hgo
        go_wp2_with fail
        go_round
        case rel => exact ⟨k + 1, by omega, by go_num, Hg⟩
        case measure => simp [intOf]; omega
    · have He := hend (.inl (by omega))
      clear hend hgo
      go_wp2_with fail
      go_quiet (fail)
      go_wp2_with fail
      go_ret2
      exact ⟨by rw [(Hres.out He.out).1, (Hres.out He.out).2]; rfl, below_drewN (Below.refl _ _) _⟩
end Go.Proofs.YtiibldfkefihlaaDoor.split
