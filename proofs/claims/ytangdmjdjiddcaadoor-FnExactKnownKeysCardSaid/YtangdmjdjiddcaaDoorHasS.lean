/- spec.l15Has, the list read as cells. -/
import Derived.Test.YtangdmjdjiddcaaDoorGA1
import Derived.Test.YtangdmjdjiddcaaDoorGA4
import Derived.Test.YtangdmjdjiddcaaDoorRows
import Derived.ProofKit
import Derived.OpenShut
namespace Go.Proofs.YtangdmjdjiddcaaDoor.field
open Go.ChangeShapes Go.WideShapes Go.ChangeAt Go.RowKit tree
set_option linter.unusedVariables false

set_option maxRecDepth 100000 in
theorem spec_has (l : List ByteArray) (s : ByteArray) (A : Option Addr) (c : Nat) (w : World) (hm : l.length ≤ maxLen) (hr : Rd w A l.length (scells l)) :
    Calls Tryd.prog 37 #[.slice A l.length c, .string s] w fun e w' => e = .returned (.bool (inL s l)) ∧ w = w' := by
  unfold maxLen at hm
  obtain ⟨R, hR⟩ : ∃ R, inL s l = R := ⟨_, rfl⟩
  rw [hR]
  have Hno : Hid (¬ s ∈ l → R = false) := fun h => by rw [← hR]; exact inL_f h
  have Hyes : Hid (s ∈ l → R = true) := fun h => by rw [← hR]; exact inL_t h
  have Hr := Lib.hid hr
  clear hr hR
  go_enter Tryd.func37, Tryd.ntmps37
  go_wp2_with fail
  go_loop [5] (fun i => ∃ j : Nat, j ≤ l.length ∧ i = .int .i64 j ∧ Hid (∀ q (hq : q < j) (hl : q < l.length), l[q] ≠ s)) (fun i => l.length - (intOf i).toNat)
  case atStart => exact ⟨0, Nat.zero_le _, rfl, fun q hq => by omega⟩
  case round =>
    obtain ⟨j, hj, rfl, hall⟩ := hrel
    by_cases hlt : j < l.length
    · obtain ⟨g, o, rfl, hg, hc0⟩ := Hr.out.2 (by omega)
      have q0 := hc0 j hlt _ (scells_get l j hlt)
      by_cases he : l[j] = s
      · have Hf := Lib.hid (Hyes.out (by rw [← he]; exact List.getElem_mem hlt))
        have hs := same_yes he
        clear he Hno Hyes hall hc0 hg
        generalize l[j] = x at q0 hs
        go_wp2_with fail
        go_ret
        exact ⟨by rw [Hf.out]; rfl, rfl⟩
      · have Hs := Lib.hid he
        have hs := same_no he
        clear he Hno Hyes hc0 hg
        generalize l[j] = x at q0 hs
        go_wp2_with fail
        go_round
        case rel => exact ⟨j + 1, by omega, by go_num, fun q hq hl => by
          by_cases e : q = j
          · subst e; exact Hs.out
          · exact hall.out q (by omega) hl⟩
        case measure => simp [intOf]; omega
    · obtain rfl : j = l.length := by omega
      have Hf := Lib.hid (Hno.out fun hm => by
        obtain ⟨q, hq, e⟩ := List.getElem_of_mem hm
        exact hall.out q hq hq e)
      clear hall
      go_wp2_with fail
      go_ret
      exact ⟨by rw [Hf.out]; rfl, rfl⟩
end Go.Proofs.YtangdmjdjiddcaaDoor.field
