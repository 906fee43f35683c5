/- A drawn yes or no: l01Once. -/
import Derived.Test.YtjcfaepklakpkaaGreatDoorDraw
namespace Go.Proofs.YtjcfaepklakpkaaGreatDoor.draw
open Go.ChangeShapes Go.WideShapes Go.ChangeAt Go.RowKit
set_option linter.unusedVariables false

/-- A drawn yes or no. -/
def GotB (c : Nat) (A : Option Addr) (len cap : Nat) (z : Nat → Int) (w : World) (e : Ending) (w' : World) : Prop :=
  ∃ b : Bool, e = .returned (.bool b) ∧ Cur w' c A len cap z ∧ w.grownBy w' (some c)
theorem once_any (c : Nat) (A : Option Addr) (len cap : Nat) (z : Nat → Int) (n : Int) (w : World) (hc : Cur w c A len cap z) (h0 : 0 < n) (h1 : n ≤ 9223372036854775807) :
    Calls Tryz.prog 22 #[.pointer (some ⟨c, 0, none⟩), .int .i64 n] w (GotB c A len cap z w) := by
  have HB := Lib.hid (below_any c A len cap z n w hc h0 h1)
  clear hc
  go_enter Tryz.func22, Tryz.ntmps22
  go_wp2_with fail
  refine HB.out.mono ?_
  rintro e w1 ⟨x, hx, rfl, hc1, hg1⟩
  have Hc1 := Lib.hid hc1
  have Hg1 := Lib.hid hg1
  clear hc1 hg1 HB hx
  go_wp2_with fail
  go_ret
  exact ⟨_, rfl, Hc1.out, Hg1.out⟩
end Go.Proofs.YtjcfaepklakpkaaGreatDoor.draw
