/- impl.beginsRune. -/
import Derived.Test.YtegpcjkcejijpaaDoorRnAtI
namespace Go.Proofs.YtegpcjkcejijpaaDoor.rune
open Go.ChangeShapes Go.WideShapes Go.ChangeAt Go.RowKit
set_option linter.unusedVariables false

/-- A number is told at place p. -/
theorem impl_begins (s : ByteArray) (p : Nat) (w : World) (hs : s.size ≤ maxLen) (hT : Tabs w) :
    Calls Tryd.prog 31 #[.string s, .int .i64 p] w fun e w' => e = .returned (.bool (decide (0 ≤ (atF s p).2))) ∧ Below w.heap.size w w' := by
  have HA := Lib.hid (impl_at s p w hs hT)
  generalize (atF s p).1 = x at HA
  generalize (atF s p).2 = y at HA ⊢
  clear hT
  go_enter Tryd.func31, Tryd.ntmps31
  go_wp2_with fail
  refine HA.out.mono ?_
  rintro e w1 ⟨rfl, hb⟩
  clear HA
  go_wp2_with fail
  go_ret
  exact ⟨rfl, hb⟩
end Go.Proofs.YtegpcjkcejijpaaDoor.rune
