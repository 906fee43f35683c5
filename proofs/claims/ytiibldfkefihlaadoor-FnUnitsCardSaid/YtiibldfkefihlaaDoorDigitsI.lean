/- impl.digitsOk. -/
import Derived.Test.YtiibldfkefihlaaDoorSplitM
namespace Go.Proofs.YtiibldfkefihlaaDoor.split
open Go.ChangeShapes Go.WideShapes Go.ChangeAt Go.RowKit
set_option linter.unusedVariables false

def okD (f : ByteArray) : Bool := decide (0 < f.size ∧ (f.size = 1 ∨ at_ f 0 ≠ 48))
theorem okD_yes {f : ByteArray} (h : 0 < f.size) (h2 : f.size = 1 ∨ at_ f 0 ≠ 48) : okD f = true := decide_eq_true ⟨h, h2⟩
theorem okD_no {f : ByteArray} (h : f.size = 0 ∨ (1 < f.size ∧ at_ f 0 = 48)) : okD f = false := decide_eq_false (by rintro ⟨h1, h2⟩; omega)
theorem digits_any (f : ByteArray) (w : World) (hf : f.size ≤ maxLen) :
    Calls Tryd.prog 29 #[.string f] w fun e w' => e = .returned (.bool (okD f)) ∧ w = w' := by
  unfold maxLen at hf
  by_cases h0 : f.size = 0
  · rw [okD_no (.inl h0)]
    have he2 := empty_yes h0
    go_enter Tryd.func29, Tryd.ntmps29
    go_wp2_with fail
    go_ret
    exact ⟨rfl, rfl⟩
  have he2 := empty_no (f := f) (by omega)
  by_cases h1 : f.size = 1
  · rw [okD_yes (by omega) (.inl h1)]
    go_enter Tryd.func29, Tryd.ntmps29
    go_wp2_with fail
    go_ret
    exact ⟨rfl, rfl⟩
  have ha := at_eq f 0 (by omega)
  have hbd := at_bd f 0
  have hn1 : ¬ (f.size : Int) = 1 := by omega
  have e1 : ((f.size : Int) == 1) = false := by simpa using hn1
  by_cases h2 : at_ f 0 = 48
  · rw [okD_no (.inr ⟨by omega, h2⟩)]
    rw [h2] at ha
    go_enter Tryd.func29, Tryd.ntmps29
    go_wp2_with fail
    go_ret
    exact ⟨rfl, rfl⟩
  · rw [okD_yes (by omega) (.inr h2)]
    have e2 : (at_ f 0 == 48) = false := by simpa using h2
    have e3 : (at_ f 0 != 48) = true := by simpa using h2
    go_enter Tryd.func29, Tryd.ntmps29
    go_wp2_with fail
    go_ret
    exact ⟨rfl, rfl⟩
end Go.Proofs.YtiibldfkefihlaaDoor.split
