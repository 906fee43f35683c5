/- spec.Unsealed. -/
import Derived.Test.YtljahpngngmecaaDoorSumS
import Derived.Test.YtljahpngngmecaaDoorFixS
import Derived.Deep.RegionHeld3
import Derived.BigQuiet
namespace Go.Proofs.YtljahpngngmecaaDoor.crc
open Go.ChangeShapes Go.WideShapes Go.ChangeAt Go.RowKit
set_option linter.unusedVariables false

theorem below_chain {w a b : World} (h : Below w.heap.size w a) (k : Below a.heap.size a b) : Below w.heap.size w b := h.trans (k.mono h.size)

set_option maxRecDepth 100000 in
set_option maxHeartbeats 4000000 in
theorem spec_un (s : ByteArray) (w : World) (hs : s.size ≤ maxLen) :
    Calls Tryd.prog 35 #[.string s] w fun e w' => e = .returned (.tuple #[.string (unF s).1, .bool (unF s).2]) ∧ Below w.heap.size w w' := by
  have hm := hs
  unfold maxLen at hm
  by_cases h1 : s.size < 4
  · rw [un_no (by omega)]
    have hd : decide ((s.size : Int) - 4 < 0) = true := by simp; omega
    go_enter Tryd.func35, Tryd.ntmps35
    go_wp2_with fail
    go_quiet (fail)
    go_wp2_with fail
    go_ret2
    exact ⟨rfl, below_drewN (Below.refl _ _) _⟩
  obtain ⟨n, hn⟩ : ∃ n, s.size = n + 4 := ⟨s.size - 4, by omega⟩
  have en : (s.size : Int) - 4 = (n : Int) := by omega
  by_cases h2 : 20000 < n
  · rw [un_no (by omega)]
    have hd0 : decide ((n : Int) < 0) = false := by simp
    have hd : decide (20000 < (n : Int)) = true := by simp; omega
    go_enter Tryd.func35, Tryd.ntmps35
    go_wp2_with fail
    go_quiet (fail)
    go_wp2_with fail
    go_ret2
    exact ⟨rfl, below_drewN (Below.refl _ _) _⟩
  have hd0 : decide ((n : Int) < 0) = false := by simp
  have hd : decide (20000 < (n : Int)) = false := by simp; omega
  have hit := tail_iff s (by omega)
  have hY := un_yes (s := s) (by omega) (by omega)
  have hN := un_no (s := s)
  have e4 : s.size - 4 = n := by omega
  rw [e4] at hit hY hN
  have hti : (s.extract 0 n).size ≤ maxLen := by rw [ByteArray.size_extract]; omega
  have HM := Lib.hid (fun w => spec_sum (s.extract 0 n) w hti)
  have HX := Lib.hid (fun w => fixed.spec_any (sumF (s.extract 0 n)) 4 w (by have := sumF_bd (s.extract 0 n); omega))
  generalize hv : fixed.fixF (sumF (s.extract 0 n)) 4 = v at HX hit
  generalize sumF (s.extract 0 n) = m at HM HX
  have hns : n ≤ s.size := by omega
  have i0 : (0 : Int) ≤ (n : Int) := by omega
  have i1 : (n : Int) ≤ (s.size : Int) := by omega
  have i2 : ¬ ((n : Int) < 0) := by omega
  have i3 : ¬ ((s.size : Int) < (n : Int)) := by omega
  by_cases h3 : s.extract n s.size = v
  · rw [hY (hit.1 h3)]
    clear hit hY hN hv hti hn e4
    subst h3
    go_enter Tryd.func35, Tryd.ntmps35
    go_wp2_with fail
    go_region_held3 (fun w' => Below w.heap.size w w') (first | exact (Below.refl _ _).drew | exact below_chain (by assumption) (by assumption)) (first | (go_at_call 47; refine (HM.out _).mono ?_; rintro e w1 ⟨rfl, hb1⟩) | (go_at_call 46; refine (HX.out _).mono ?_; rintro e w2 ⟨rfl, hb2⟩))
    all_goals
      go_wp2_with fail
      go_ret2
      exact ⟨rfl, by assumption⟩
  · rw [hN (fun h => h3 (hit.2 h.2.2))]
    clear hit hY hN hv hti hn e4
    have hne : ((s.extract n s.size).toList == v.toList) = false := by
      rw [list_eq, list_eq]
      exact beq_eq_false_iff_ne.2 fun e => h3 (bytes_ext e)
    generalize hu : s.extract n s.size = u at hne
    go_enter Tryd.func35, Tryd.ntmps35
    go_wp2_with fail
    go_region_held3 (fun w' => Below w.heap.size w w') (first | exact (Below.refl _ _).drew | exact below_chain (by assumption) (by assumption)) (first | (go_at_call 47; refine (HM.out _).mono ?_; rintro e w1 ⟨rfl, hb1⟩) | (go_at_call 46; refine (HX.out _).mono ?_; rintro e w2 ⟨rfl, hb2⟩))
    all_goals
      go_wp2_with fail
      go_ret2
      exact ⟨rfl, by assumption⟩
end Go.Proofs.YtljahpngngmecaaDoor.crc
