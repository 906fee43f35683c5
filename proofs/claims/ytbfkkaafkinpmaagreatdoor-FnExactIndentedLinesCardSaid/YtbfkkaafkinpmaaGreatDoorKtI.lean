/- impl.KeyText. -/
import Derived.Test.YtbfkkaafkinpmaaGreatDoorGSc
import Derived.Test.YtbfkkaafkinpmaaGreatDoorPlainI
import Derived.Test.YtbfkkaafkinpmaaGreatDoorGQuI
namespace Go.Proofs.YtbfkkaafkinpmaaGreatDoor.line
open Go.ChangeShapes Go.WideShapes Go.ChangeAt Go.RowKit
set_option linter.unusedVariables false

theorem impl_kt (s : ByteArray) (w : World) (hs : s.size ≤ 1048576) (hT : rune.Tabs w) (hM : MaxL w) :
    Calls Tryz.prog 50 #[.string s] w fun e w' => e = .returned (.string (keyT s)) ∧ Below w.heap.size w w' := by
  have HP := Lib.hid (fun w1 (hb : Below w.heap.size w w1) => impl_plain s w1 hs (hT.below hb) (hM.below hb))
  have HQ := Lib.hid (fun w1 (hb : Below w.heap.size w w1) => quote.impl_quoted s w1 hs (hT.below hb))
  clear hT hM
  cases hp : plainF s with
  | true =>
    have e : keyT s = s := by unfold keyT; rw [if_pos hp]
    rw [e]
    rw [hp] at HP
    clear e hp HQ
    go_enter Tryz.func50, Tryz.ntmps50
    go_wp2_with fail
    refine (HP.out _ (Below.refl _ _)).mono ?_
    rintro e w1 ⟨rfl, hb1⟩
    have Hb1 := Lib.hid hb1
    clear HP hb1
    go_wp2_with fail
    go_ret
    exact ⟨rfl, Hb1.out⟩
  | false =>
    have e : keyT s = quote.quotedF s := by unfold keyT; rw [if_neg (by rw [hp]; decide)]
    rw [e]
    rw [hp] at HP
    clear e hp
    generalize quote.quotedF s = q at HQ
    go_enter Tryz.func50, Tryz.ntmps50
    go_wp2_with fail
    refine (HP.out _ (Below.refl _ _)).mono ?_
    rintro e w1 ⟨rfl, hb1⟩
    have Hb1 := Lib.hid hb1
    clear HP hb1
    go_wp2_with fail
    refine (HQ.out _ Hb1.out).mono ?_
    rintro e w2 ⟨rfl, hb2⟩
    have Hb2 := Lib.hid (Hb1.out.trans (hb2.mono Hb1.out.size))
    clear HQ hb2 Hb1
    go_wp2_with fail
    go_ret
    exact ⟨rfl, Hb2.out⟩
end Go.Proofs.YtbfkkaafkinpmaaGreatDoor.line
