/- FnExactSuffixes: the law returns true. -/
import Derived.Test.YtpimbibmjoeliaaSufI
import Derived.Test.YtpimbibmjoeliaaSufS
import Derived.Test.YtpimbibmjoeliaaLawStr
namespace Go.Proofs.Ytpimbibmjoeliaa.fnExactSuffixes
open Go.ChangeShapes Go.WideShapes Go.ChangeAt Go.RowKit
set_option linter.unusedVariables false

theorem walk (W : World) :
    Calls Try.prog 3 #[] W fun e w' => e = .returned (.bool true) ∧ Below W.heap.size W w' := by
  have HS := Lib.hid (fun w1 => suf.spec_any w1)
  have HI := Lib.hid (fun w1 => suf.impl_any w1)
  have hL : unit.texts.length = 10 := rfl
  generalize unit.texts = L at HS HI hL
  go_enter Try.func3, Try.ntmps3
  go_wp2_with fail
  refine (HS.out _).mono ?_
  rintro e w1 ⟨v0, rfl, hv0, hb1⟩
  obtain ⟨A0, c0, rfl, hn0, hc0, hr0⟩ := Rd.of_own hv0
  clear hv0
  go_wp2_with fail
  refine (HI.out _).mono ?_
  rintro e w2 ⟨v1, rfl, hv1, hb2⟩
  obtain ⟨A1, c1, rfl, hn1, hc1, hr1⟩ := Rd.of_own hv1
  have hr0b := hr0.below hb2
  go_wp2_with fail
  refine (lawStr.eq_yes _ _ _ _ _ L _ (by unfold maxLen; omega) hL hr1 hr0b).mono ?_
  rintro e w2' ⟨rfl, q, rfl⟩
  have hv1' : (w2.drewN q).ownsRow w1.heap.size 9 1 (.slice A1 10 c1) 10 (scells L) := hv1
  have hb2' : Below w1.heap.size w1 (w2.drewN q) := below_drewN hb2 q
  generalize w2.drewN q = w3 at hv1' hb2'
  clear hv1 hb2 hr0b hr1
  go_wp2_with fail
  refine (lawStr.mark_any _ _ _ _ _ _ hv1' (by omega) (by omega)).mono ?_
  rintro e w4 ⟨rfl, hv4, hg4⟩
  have hb4 : Below w1.heap.size w1 w4 := hb2'.grown hg4 hb2'.size (fun k hk => (hv1'.lt k hk).1)
  obtain ⟨A4, c4, hA4, _, _, hr4⟩ := Rd.of_own hv4
  obtain ⟨rfl, rfl⟩ : A1 = A4 ∧ c1 = c4 := by injection hA4 with h1 h2 h3; exact ⟨h1, h3⟩
  clear hv1' hb2' hg4 hv4 hA4
  go_wp2_with fail
  refine (lawStr.held_yes _ _ _ _ _ hr4 (by omega) (by omega)).mono ?_
  rintro e w5 ⟨rfl, hb5⟩
  go_wp2_with fail
  refine (HI.out _).mono ?_
  rintro e w6 ⟨v2, rfl, hv2, hb6⟩
  obtain ⟨A2, c2, rfl, hn2, hc2, hr2⟩ := Rd.of_own hv2
  have hb46 : Below w4.heap.size w4 w6 := hb5.trans (hb6.mono hb5.size)
  have hb16 : Below w1.heap.size w1 w6 := hb4.trans (hb46.mono hb4.size)
  have hr0c := hr0.below hb16
  have hr4c := hr4.below hb46
  go_wp2_with fail
  refine (lawStr.eq_yes _ _ _ _ _ L _ (by unfold maxLen; omega) hL hr2 hr0c).mono ?_
  rintro e w6' ⟨rfl, q2, rfl⟩
  go_wp2_with fail
  refine (lawStr.held_yes _ _ _ _ _ (hr4c.drewN q2) (by omega) (by omega)).mono ?_
  rintro e w7 ⟨rfl, hb7⟩
  go_wp2_with fail
  go_ret
  exact ⟨rfl, hb1.trans ((below_drewN hb16 q2).mono hb1.size |>.trans (hb7.mono (Nat.le_trans hb1.size hb16.size)))⟩
end Go.Proofs.Ytpimbibmjoeliaa.fnExactSuffixes
