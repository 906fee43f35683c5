/- FnExactUnhex: for every text the law returns true. -/
import Derived.Test.YtecbgflakidegaaUnhex
namespace Go.Proofs.Ytecbgflakidegaa.fnExactUnhex
open Go.ChangeShapes Go.WideShapes Go.ChangeAt Go.RowKit
set_option linter.unusedVariables false

theorem out_form (s : ByteArray) : ∃ t b, unhex.out s = .tuple #[.string t, .bool b] := by
  unfold unhex.out
  split
  · exact ⟨_, _, rfl⟩
  · exact ⟨_, _, rfl⟩

theorem walk (s : ByteArray) (W : World) (hs : s.size ≤ maxLen) :
    Calls Try.prog 4 #[.string s] W fun e w' => e = .returned (.bool true) ∧ Below W.heap.size W w' := by
  have hm := hs
  unfold maxLen at hm
  by_cases h1 : 1048576 < s.size
  · go_enter Try.func4, Try.ntmps4
    go_wp2_with fail
    go_ret
    exact ⟨rfl, Below.refl _ _⟩
  · have hS := unhex.spec_any s W hs
    have hI : ∀ w1, _ := fun w1 => unhex.impl_any s w1 hs
    obtain ⟨t, b, ho⟩ := out_form s
    rw [ho] at hS hI
    have HS := Lib.hid hS
    have HI := Lib.hid hI
    clear hS hI ho
    go_enter Try.func4, Try.ntmps4
    go_wp2_with fail
    refine HS.out.mono ?_
    rintro e w1 ⟨rfl, hb1⟩
    go_wp2_with fail
    refine (HI.out _).mono ?_
    rintro e w2 ⟨rfl, hb2⟩
    go_wp2_with fail
    go_ret
    exact ⟨rfl, hb1.trans (hb2.mono hb1.size)⟩
end Go.Proofs.Ytecbgflakidegaa.fnExactUnhex
