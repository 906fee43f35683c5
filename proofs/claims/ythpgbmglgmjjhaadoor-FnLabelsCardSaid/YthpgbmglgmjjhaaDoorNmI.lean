/- impl.NameOk. -/
import Derived.Test.YthpgbmglgmjjhaaDoorIdI
namespace Go.Proofs.YthpgbmglgmjjhaaDoor.lab
open Go.ChangeShapes Go.WideShapes Go.ChangeAt Go.RowKit
set_option linter.unusedVariables false

theorem impl_name (s : ByteArray) (w : World) (hs : s.size ≤ 9223372036854775807) :
    Calls Tryd.prog 13 #[.string s] w fun e w' => e = .returned (.bool (yes (NameP s))) ∧ Below w.heap.size w w' := by
  have H := Lib.hid (impl_id s 20 ⟨lowL.toArray⟩ ⟨#[45]⟩ w hs (by decide) (by decide) (by decide) (ascii_of_all (by decide)) (ascii_of_all (by decide)))
  have e : yes (IdP 20 (⟨lowL.toArray⟩ : ByteArray).data.toList (⟨#[45]⟩ : ByteArray).data.toList s) = yes (NameP s) := by
    congr 1; exact propext (name_iff s).symm
  rw [e] at H
  clear e
  generalize yes (NameP s) = R at H
  unfold lowL at H
  go_enter Tryd.func13, Tryd.ntmps13
  go_wp2_with fail
  refine H.out.mono ?_
  rintro e w1 ⟨rfl, hb⟩
  go_wp2_with fail
  go_ret
  exact ⟨rfl, hb⟩
end Go.Proofs.YthpgbmglgmjjhaaDoor.lab
