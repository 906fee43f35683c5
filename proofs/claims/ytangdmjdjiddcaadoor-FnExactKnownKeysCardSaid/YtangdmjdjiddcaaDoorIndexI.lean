/- slices.Index and slices.Contains at strings, whatever the slice's capacity. -/
import Derived.Test.YtangdmjdjiddcaaDoorGA4
import Derived.Test.YtangdmjdjiddcaaDoorGA1
import Derived.Test.YtangdmjdjiddcaaDoorRows
import Derived.ProofKit
import Derived.OpenShut
namespace Go.Proofs.YtangdmjdjiddcaaDoor.field
open Go.ChangeShapes Go.WideShapes Go.ChangeAt Go.RowKit tree
set_option linter.unusedVariables false

theorem index_str0 (A : Option Addr) (c : Nat) (ks : List ByteArray) (key : ByteArray) (w : World) (hm : ks.length ≤ maxLen) (hr : Rd w A ks.length (scells ks)) :
    Calls Tryd.prog 77 #[.slice A ks.length c, .string key] w fun e w' => e = .returned (.int .i64 (keyFrom key ks 0)) ∧ w' = w := by
  unfold maxLen at hm
  have Hr := Lib.hid hr
  clear hr
  obtain ⟨R, hR⟩ : ∃ R, keyFrom key ks 0 = R := ⟨_, rfl⟩
  rw [hR]
  have HK := Lib.hid hR
  clear hR
  go_enter Tryd.func77, Tryd.ntmps77
  go_wp2_with fail
  go_loop [8] (fun i => ∃ (j : Nat), j ≤ ks.length ∧ i = .int .i64 j ∧ Hid (∀ m, m < j → ks[m]? ≠ some key)) (fun i => ks.length - (intOf i).toNat)
  case atStart => exact ⟨0, Nat.zero_le _, rfl, fun m hm => by omega⟩
  case round =>
    obtain ⟨j, hj, rfl, hm⟩ := hrel
    by_cases hlt : j < ks.length
    · obtain ⟨g, o, rfl, hg, hc0⟩ := Hr.out.2 (by omega)
      have hcell := hc0 j hlt _ (scells_get ks j hlt)
      clear hc0 hg
      by_cases he : ks[j] = key
      · have Hend := Lib.hid (HK.out.symm.trans (keyFrom_at (by rw [List.getElem?_eq_getElem hlt, he]) hm.out))
        have e1 := same_yes' he
        generalize ks[j] = x at hcell e1
        clear he hm
        go_wp2_with fail
        go_ret
        exact ⟨by rw [Hend.out]; rfl, rfl⟩
      · have Hm := Lib.hid (show ∀ m, m < j + 1 → ks[m]? ≠ some key from fun m hmj => by
          by_cases e : m = j
          · subst e; rw [List.getElem?_eq_getElem hlt]; exact fun e => he (by injection e)
          · exact hm.out m (by omega))
        have e1 := same_no' he
        generalize ks[j] = x at hcell e1
        clear he hm
        go_wp2_with fail
        go_round
        case rel => exact ⟨j + 1, by omega, by go_num, Hm.out⟩
        case measure => simp [intOf]; omega
    · obtain rfl : j = ks.length := by omega
      have Hend := Lib.hid (HK.out.symm.trans (keyFrom_none hm.out))
      clear hm
      go_wp2_with fail
      go_ret
      exact ⟨by rw [Hend.out]; rfl, rfl⟩
theorem impl_contains (A : Option Addr) (c : Nat) (l : List ByteArray) (s : ByteArray) (w : World) (hm : l.length ≤ maxLen) (hr : Rd w A l.length (scells l)) :
    Calls Tryd.prog 65 #[.slice A l.length c, .string s] w fun e w' => e = .returned (.bool (inL s l)) ∧ w' = w := by
  have HI := Lib.hid (index_str0 A c l s w hm hr)
  clear hr
  rcases keyFrom_cases s l 0 with ⟨h1, h2⟩ | ⟨j, h1, h2, _⟩
  · rw [h1] at HI
    rw [inL_f h2]
    clear h1 h2
    go_enter Tryd.func65, Tryd.ntmps65
    go_wp2_with fail
    refine HI.out.mono ?_
    rintro e w1 ⟨rfl, rfl⟩
    go_wp2_with fail
    go_ret
    exact ⟨rfl, rfl⟩
  · rw [h1] at HI
    rw [inL_t (List.mem_of_getElem? h2)]
    have hj : (decide ((0 : Int) ≤ ((0 + j : Nat) : Int))) = true := by simp
    clear h1 h2
    generalize ((0 + j : Nat) : Int) = x at HI hj
    go_enter Tryd.func65, Tryd.ntmps65
    go_wp2_with fail
    refine HI.out.mono ?_
    rintro e w1 ⟨rfl, rfl⟩
    go_wp2_with fail
    go_ret
    exact ⟨by simp, rfl⟩
end Go.Proofs.YtangdmjdjiddcaaDoor.field
