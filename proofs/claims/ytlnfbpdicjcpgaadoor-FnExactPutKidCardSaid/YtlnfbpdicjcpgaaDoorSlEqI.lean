/- slices.Equal at strings. -/
import Derived.Test.YtlnfbpdicjcpgaaDoorGTree
import Derived.Test.YtlnfbpdicjcpgaaDoorSameB
import Derived.Test.YtlnfbpdicjcpgaaDoorRows
import Derived.ProofKit
import Derived.OpenShut
namespace Go.Proofs.YtlnfbpdicjcpgaaDoor.tree
open Go.ChangeShapes Go.WideShapes Go.ChangeAt Go.RowKit
set_option linter.unusedVariables false

theorem keys_ne {a b : List ByteArray} {j : Nat} (ha : j < a.length) (hb : j < b.length) (h : ¬ a[j] = b[j]) : a ≠ b := by
  rintro rfl
  exact h rfl
theorem keys_eq {a b : List ByteArray} (hl : a.length = b.length) (h : ∀ m, m < a.length → a[m]? = b[m]?) : a = b := by
  apply List.ext_getElem? fun m => ?_
  by_cases hm : m < a.length
  · exact h m hm
  · rw [List.getElem?_eq_none (by omega), List.getElem?_eq_none (by omega)]
theorem equal_strs (A B : Option Addr) (c d : Nat) (ks ls : List ByteArray) (w : World) (hc : ks.length ≤ c) (hcm : c ≤ maxLen) (hd : ls.length ≤ d) (hdm : d ≤ maxLen) (hr : Rd w A ks.length (scells ks)) (hr' : Rd w B ls.length (scells ls)) :
    Calls Tryd.prog 76 #[.slice A ks.length c, .slice B ls.length d] w fun e w' => e = .returned (.bool (decide (ks = ls))) ∧ ∃ n, w' = w.drewN n := by
  unfold maxLen at hcm hdm
  have Hr := Lib.hid hr
  have Hr' := Lib.hid hr'
  clear hr hr'
  obtain ⟨R, hR⟩ : ∃ R, decide (ks = ls) = R := ⟨_, rfl⟩
  rw [hR]
  have HR := Lib.hid hR
  clear hR
  by_cases hl : ks.length = ls.length
  · have e1 : (((ks.length : Nat) : Int) != (ls.length : Nat)) = false := by simp [hl]
    have Hl := Lib.hid hl
    clear hl
    go_enter Tryd.func76, Tryd.ntmps76
    go_wp2_with fail
    go_loopw [13] (fun i wr => ∃ (j : Nat), j ≤ ks.length ∧ i = .int .i64 j ∧ Hid (∀ m, m < j → ks[m]? = ls[m]?) ∧ ∃ q, wr = w.drewN q) (fun i _ => ks.length - (intOf i).toNat)
    case atStart => exact ⟨0, Nat.zero_le _, rfl, fun m hm => by omega, 0, rfl⟩
    case round =>
      clear e1
      obtain ⟨j, hj, rfl, hm, q, rfl⟩ := hrel
      by_cases hlt : j < ks.length
      · have hlt' : j < ls.length := by rw [← Hl.out]; exact hlt
        obtain ⟨g, o, rfl, hg, hc0⟩ := Hr.out.2 (by omega)
        have hcell := hc0 j hlt _ (scells_get ks j hlt)
        obtain ⟨g', o', rfl, hg', hc0'⟩ := Hr'.out.2 (by omega)
        have hcell' := hc0' j hlt' _ (scells_get ls j hlt')
        clear hc0 hg hc0' hg'
        by_cases he : ks[j] = ls[j]
        · have Hm := Lib.hid (show ∀ m, m < j + 1 → ks[m]? = ls[m]? from fun m hmj => by
            by_cases e : m = j
            · subst e; rw [List.getElem?_eq_getElem hlt, List.getElem?_eq_getElem hlt', he]
            · exact hm.out m (by omega))
          rw [he] at hcell
          generalize ls[j] = x at hcell hcell'
          clear he hm
          go_wp2_with fail
          go_quiet (fail)
          go_wp2_with fail
          go_roundw
          case rel => exact ⟨j + 1, by omega, by go_num, Hm.out, _, rfl⟩
          case measure => simp [intOf]; omega
        · have Hend := Lib.hid (show R = false by rw [← HR.out]; exact decide_eq_false (keys_ne hlt hlt' he))
          have e1 : (!(ks[j].toList == ls[j].toList)) = true := by rw [same_no he]; rfl
          have e2 := same_no he
          generalize ks[j] = x at hcell e1 e2
          generalize ls[j] = y at hcell' e1 e2
          clear he hm
          go_wp2_with fail
          go_quiet (fail)
          go_wp2_with fail
          go_ret
          refine ⟨by rw [Hend.out]; rfl, q + nq, ?_⟩
          simp [World.drewN, Nat.add_assoc]
      · obtain rfl : j = ks.length := by omega
        have Hend := Lib.hid (show R = true by rw [← HR.out]; exact decide_eq_true (keys_eq Hl.out hm.out))
        clear hm
        go_wp2_with fail
        go_ret
        exact ⟨by rw [Hend.out]; rfl, _, rfl⟩
  · have e1 : (((ks.length : Nat) : Int) != (ls.length : Nat)) = true := by
      have : ((ks.length : Nat) : Int) ≠ (ls.length : Nat) := by omega
      simpa using this
    have Hend := Lib.hid (show R = false by rw [← HR.out]; exact decide_eq_false (fun e => hl (by rw [e])))
    clear hl
    go_enter Tryd.func76, Tryd.ntmps76
    go_wp2_with fail
    go_ret
    exact ⟨by rw [Hend.out]; rfl, 0, rfl⟩
end Go.Proofs.YtlnfbpdicjcpgaaDoor.tree
