/- impl.Unsealed. -/
import Derived.Test.YtljahpngngmecaaDoorSealI
namespace Go.Proofs.YtljahpngngmecaaDoor.crc
open Go.ChangeShapes Go.WideShapes Go.ChangeAt Go.RowKit
set_option linter.unusedVariables false

theorem impl_un (s : ByteArray) (w : World) (hs : s.size ≤ maxLen) :
    Calls Tryd.prog 58 #[.string s] w fun e w' => e = .returned (.tuple #[.string (unF s).1, .bool (unF s).2]) ∧ Below w.heap.size w w' := by
  have hm := hs
  unfold maxLen at hm
  by_cases h1 : s.size < 4
  · rw [un_no (by omega)]
    go_enter Tryd.func58, Tryd.ntmps58
    go_wp2_with fail
    go_ret2
    exact ⟨rfl, Below.refl _ _⟩
  obtain ⟨n, hn⟩ : ∃ n, s.size = n + 4 := ⟨s.size - 4, by omega⟩
  have en : (s.size : Int) - 4 = (n : Int) := by omega
  have hY := un_yes (s := s) (by omega)
  have hN := un_no (s := s)
  have e4 : s.size - 4 = n := by omega
  rw [e4] at hY hN
  have hti : (s.extract 0 n).size = n := by rw [ByteArray.size_extract]; omega
  have HS := Lib.hid (fun w => impl_seal (s.extract 0 n) w (by unfold maxLen; omega))
  have hns : n ≤ s.size := by omega
  by_cases h2 : 20000 < n
  · rw [hN (by omega)]
    rw [seal_no (by omega)] at HS
    clear hY hN hti
    go_enter Tryd.func58, Tryd.ntmps58
    go_wp2_with fail
    refine (HS.out _).mono ?_
    rintro e w1 ⟨rfl, hb1⟩
    clear HS
    go_wp2_with fail
    go_ret2
    exact ⟨rfl, hb1⟩
  rw [seal_yes (by omega)] at HS
  by_cases h3 : sealB (s.extract 0 n) = s
  · rw [hY (by omega) h3]
    rw [h3] at HS
    clear hY hN hti h3
    go_enter Tryd.func58, Tryd.ntmps58
    go_wp2_with fail
    refine (HS.out _).mono ?_
    rintro e w1 ⟨rfl, hb1⟩
    clear HS
    go_wp2_with fail
    go_ret2
    exact ⟨rfl, hb1⟩
  · rw [hN (fun h => h3 h.2.2)]
    clear hY hN hti
    generalize sealB (s.extract 0 n) = v at HS h3
    have hne : (v.toList == s.toList) = false := by
      rw [list_eq, list_eq]
      exact beq_eq_false_iff_ne.2 fun e => h3 (bytes_ext e)
    go_enter Tryd.func58, Tryd.ntmps58
    go_wp2_with fail
    refine (HS.out _).mono ?_
    rintro e w1 ⟨rfl, hb1⟩
    clear HS
    go_wp2_with fail
    go_ret2
    exact ⟨rfl, hb1⟩
end Go.Proofs.YtljahpngngmecaaDoor.crc
