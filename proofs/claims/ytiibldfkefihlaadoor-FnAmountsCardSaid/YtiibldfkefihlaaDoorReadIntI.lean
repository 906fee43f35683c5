/- impl.ReadInt over impl.readUpTo. -/
import Derived.Test.YtiibldfkefihlaaDoorReadNumI
namespace Go.Proofs.YtiibldfkefihlaaDoor.readnum
open Go.ChangeShapes Go.WideShapes Go.ChangeAt Go.RowKit
set_option linter.unusedVariables false

theorem int_any (s : ByteArray) (w : World) (hs : s.size ≤ 1048576) (hE : ErrVar w "strconv.ErrSyntax") (hR : ErrVar w "strconv.ErrRange") (hP : decimal.Pow w) :
    Calls Tryd.prog 30 #[.string s] w fun e w' => e = .returned (.tuple #[.int .i64 (res 9223372036854775807 s), .bool (flag 9223372036854775807 s)]) ∧ Below w.heap.size w w' := by
  have HU := Lib.hid (upto_any 9223372036854775807 (by decide) s w hs hE hR hP)
  clear hE hR hP
  go_enter Tryd.func30, Tryd.ntmps30
  go_wp2_with fail
  refine HU.out.mono ?_
  rintro e w1 ⟨rfl, hb1⟩
  go_wp2_with fail
  go_ret2
  exact ⟨rfl, hb1⟩
theorem int_yes (s : ByteArray) (w : World) (n : Nat) (hs : s.size ≤ 1048576) (hP : decimal.Pow w) (hn : Num 9223372036854775807 s n) :
    Calls Tryd.prog 30 #[.string s] w fun e w' => e = .returned (.tuple #[.int .i64 n, .bool true]) ∧ Below w.heap.size w w' := by
  have HU := Lib.hid (upto_yes 9223372036854775807 (by decide) s w n hs hP hn)
  clear hP hn
  go_enter Tryd.func30, Tryd.ntmps30
  go_wp2_with fail
  refine HU.out.mono ?_
  rintro e w1 ⟨rfl, hb1⟩
  go_wp2_with fail
  go_ret2
  exact ⟨rfl, hb1⟩
end Go.Proofs.YtiibldfkefihlaaDoor.readnum
