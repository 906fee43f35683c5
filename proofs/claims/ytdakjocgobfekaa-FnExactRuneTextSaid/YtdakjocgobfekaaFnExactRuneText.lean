/- FnExactRuneText: the law returns true at every argument. -/
import Derived.Test.YtdakjocgobfekaaRnI
import Derived.Test.YtdakjocgobfekaaRnS
namespace Go.Proofs.Ytdakjocgobfekaa.fnExactRuneText
open Go.ChangeShapes Go.WideShapes Go.ChangeAt Go.RowKit
set_option linter.unusedVariables false

theorem walk (n : Int) (W : World) (hn : (Lit.int .i64 n).wf = true) :
    Calls Try.prog 4 #[.int .i64 n] W fun e w' => e = .returned (.bool true) ∧ Below W.heap.size W w' := by
  have bn := i64_bd hn
  have HS := Lib.hid (fun W => rune.spec_text n W bn.1 bn.2)
  have HI := Lib.hid (fun W => rune.impl_text n W)
  generalize rune.textF n = x at HS HI
  go_enter Try.func4, Try.ntmps4
  go_wp2_with fail
  refine (HS.out _).mono ?_
  rintro e w1 ⟨rfl, hb1⟩
  go_wp2_with fail
  refine (HI.out _).mono ?_
  rintro e w2 ⟨rfl, rfl⟩
  go_wp2_with fail
  go_ret
  exact ⟨rfl, hb1⟩
end Go.Proofs.Ytdakjocgobfekaa.fnExactRuneText
