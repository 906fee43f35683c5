/- laws.szStringS. -/
import Derived.Test.YtjcfaepklakpkaaDoorStrM
import Derived.Test.YtjcfaepklakpkaaDoorRows
import Derived.ProofKit
import Derived.OpenShut
namespace Go.Proofs.YtjcfaepklakpkaaDoor.ty
open Go.ChangeShapes Go.WideShapes Go.ChangeAt Go.RowKit
set_option linter.unusedVariables false

theorem szStr (ks : List ByteArray) (f : Nat) (v : Value) (left : Int) (w : World) (h : Lies w f v (.sl 1 ks.length (ks.flatMap Str.row))) (hl : LeftN left) :
    Calls Tryd.prog 44 #[v, .int .i64 left] w fun e w' => e = .returned (.int .i64 (cutN left (ks.length + wsum Str.wt ks))) ∧ Below w.heap.size w w' := by
  obtain ⟨A, c, rfl, hc, hm, hr, hks⟩ := Str.opened h
  unfold maxLen at hm
  unfold LeftN at hl
  have Hr := Lib.hid hr
  have Hks := Lib.hid hks
  clear hr hks h
  by_cases h0 : left < ks.length
  · have He := Lib.hid (cutN_no (show left < ((ks.length + wsum Str.wt ks : Nat) : Int) by omega))
    go_enter Tryd.func44, Tryd.ntmps44
    go_wp2_with fail
    go_ret
    exact ⟨by rw [He.out]; rfl, Below.refl _ _⟩
  · go_enter Tryd.func44, Tryd.ntmps44
    go_wp2_with fail
    go_loop [1, 5] (fun a i => ∃ (j : Nat) (l : Int), j ≤ ks.length ∧ i = .int .i64 j ∧ a = .int .i64 l ∧ 0 ≤ l ∧ l ≤ 1048576 ∧ Hid (l = left - ks.length - wsum Str.wt (ks.take j))) (fun _ i => ks.length - (intOf i).toNat)
    case atStart => exact ⟨0, left - ks.length, Nat.zero_le _, rfl, rfl, by omega, by omega, by unfold Hid; simp [wsum]⟩
    case round =>
      obtain ⟨j, l, hj, rfl, rfl, hl0, hl1, hin⟩ := hrel
      by_cases hlt : j < ks.length
      · obtain ⟨g, o, rfl, hg, hc0⟩ := Hr.out.2 (by omega)
        have hcell := hc0 j hlt _ (scells_get ks j hlt)
        have hsz := Hks.out ks[j] (List.getElem_mem hlt)
        unfold maxLen at hsz
        have hnext : wsum Str.wt (ks.take (j + 1)) = wsum Str.wt (ks.take j) + ks[j].size := wsum_take Str.wt hlt
        have hall := wsum_all Str.wt ks (j + 1)
        clear hc0 hg
        by_cases h1 : l < ks[j].size
        · have He := Lib.hid (cutN_no (show left < ((ks.length + wsum Str.wt ks : Nat) : Int) by have := hin.out; omega))
          clear hnext hall hin
          generalize ks[j] = x at hcell hsz h1
          go_wp2_with fail
          go_ret
          exact ⟨by rw [He.out]; rfl, Below.refl _ _⟩
        · have Hin := Lib.hid (show l - ks[j].size = left - ks.length - wsum Str.wt (ks.take (j + 1)) by have := hin.out; omega)
          clear hnext hall hin
          generalize ks[j] = x at hcell hsz h1 Hin
          go_wp2_with fail
          go_round
          case rel => exact ⟨j + 1, l - x.size, by omega, by go_num, rfl, by omega, by omega, Hin.out⟩
          case measure => simp [intOf]; omega
      · obtain rfl : j = ks.length := by omega
        rw [List.take_of_length_le (Nat.le_refl _)] at hin
        have He := Lib.hid (cutN_yes (show ¬ left < ((ks.length + wsum Str.wt ks : Nat) : Int) by have := hin.out; omega))
        have Hin := Lib.hid (show left - ((ks.length + wsum Str.wt ks : Nat) : Int) = l by have := hin.out; omega)
        clear hin
        go_wp2_with fail
        go_ret
        exact ⟨by rw [He.out, Hin.out]; rfl, Below.refl _ _⟩
end Go.Proofs.YtjcfaepklakpkaaDoor.ty
