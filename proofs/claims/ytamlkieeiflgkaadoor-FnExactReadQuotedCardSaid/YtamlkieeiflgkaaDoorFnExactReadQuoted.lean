/- FnExactReadQuoted: the law returns true at every argument. -/
import Derived.Test.YtamlkieeiflgkaaDoorReadQfI
import Derived.Test.YtamlkieeiflgkaaDoorReadQfS
namespace Go.Proofs.YtamlkieeiflgkaaDoor.fnExactReadQuoted
open Go.ChangeShapes Go.WideShapes Go.ChangeAt Go.RowKit
set_option linter.unusedVariables false

theorem walk (s : ByteArray) (a : Int) (W : World) (hs : s.size ≤ maxLen) (ha : (Lit.int .i64 a).wf = true) (hT : rune.Tabs W) (hE : readq.ErrVar W "strconv.ErrSyntax") :
    Calls Tryd.prog 4 #[.string s, .int .i64 a] W fun e w' => e = .returned (.bool true) ∧ Below W.heap.size W w' := by
  have ba := i64_bd ha
  have ms := hs
  unfold maxLen at ms
  by_cases ls : 1048576 < s.size
  · clear hT hE
    go_enter Tryd.func4, Tryd.ntmps4
    go_wp2_with fail
    go_ret
    exact ⟨rfl, Below.refl _ _⟩
  have hs9 : s.size ≤ 1048576 := by omega
  have HT := Lib.hid hT
  have HE := Lib.hid hE
  clear hT hE
  have HS := Lib.hid (fun W => readq.spec_readq s a W hs9 ba.1 ba.2)
  have HI := Lib.hid (fun W h h2 => readq.impl_readq s a W hs9 ba.1 ba.2 h h2)
  generalize (readq.readF s a).1 = x at HS HI
  generalize (readq.readF s a).2 = y at HS HI
  go_enter Tryd.func4, Tryd.ntmps4
  go_wp2_with fail
  refine (HS.out _).mono ?_
  rintro e w1 ⟨rfl, hb1⟩
  go_wp2_with fail
  refine (HI.out _ (HT.out.below hb1) (HE.out.below hb1)).mono ?_
  rintro e w2 ⟨rfl, hb2⟩
  go_wp2_with fail
  go_ret
  exact ⟨rfl, hb1.trans (hb2.mono hb1.size)⟩
end Go.Proofs.YtamlkieeiflgkaaDoor.fnExactReadQuoted
