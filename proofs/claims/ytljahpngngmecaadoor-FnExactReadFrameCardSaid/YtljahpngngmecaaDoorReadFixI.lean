/- impl.ReadFixed. -/
import Derived.Test.YtljahpngngmecaaDoorFixI
import Derived.Test.YtljahpngngmecaaDoorArithM
namespace Go.Proofs.YtljahpngngmecaaDoor.fixed
open Go.ChangeShapes Go.WideShapes Go.ChangeAt Go.RowKit
set_option linter.unusedVariables false

theorem impl_read_no (s : ByteArray) (a w : Int) (W : World) (hs : s.size ≤ maxLen) (h : w < 1 ∨ 8 < w ∨ a < 0 ∨ (s.size : Int) - w < a) :
    Calls Tryd.prog 57 #[.string s, .int .i64 a, .int .i64 w] W fun e w' => e = .returned (.tuple #[.int .i64 0, .bool false]) ∧ Below W.heap.size W w' := by
  unfold maxLen at hs
  by_cases h1 : w < 1 ∨ 8 < w
  · have HI := Lib.hid (fun W => width_no w W h1)
    clear h h1
    go_enter Tryd.func57, Tryd.ntmps57
    go_wp2_with fail
    refine (HI.out _).mono ?_
    rintro e w1 ⟨rfl, rfl⟩
    go_wp2_with fail
    go_ret2
    exact ⟨rfl, Below.refl _ _⟩
  have HI := Lib.hid (fun W => width_yes w W (by omega) (by omega))
  by_cases h2 : a < 0
  · clear h
    go_enter Tryd.func57, Tryd.ntmps57
    go_wp2_with fail
    refine (HI.out _).mono ?_
    rintro e w1 ⟨rfl, rfl⟩
    go_wp2_with fail
    go_ret2
    exact ⟨rfl, Below.refl _ _⟩
  have h3 : (s.size : Int) - w < a := by omega
  have h4 : 1 ≤ w ∧ w ≤ 8 := by omega
  clear h h1
  go_enter Tryd.func57, Tryd.ntmps57
  go_wp2_with fail
  refine (HI.out _).mono ?_
  rintro e w1 ⟨rfl, rfl⟩
  go_wp2_with fail
  go_ret2
  exact ⟨rfl, Below.refl _ _⟩

theorem wrap_in (s : ByteArray) (p i : Nat) (hi : i ≤ 8) : (Lit.int .i64 (IntKind.i64.wrap (val s p i))).wf = true := by
  have e1 : IntKind.i64.min = -9223372036854775808 := rfl
  have e2 : IntKind.i64.max = 9223372036854775807 := rfl
  simp [Lit.wf, e1, e2]
  rw [IntKind.wrap_i64]
  omega
set_option maxRecDepth 100000 in
theorem impl_read_in (s : ByteArray) (p w : Nat) (W : World) (hs : s.size ≤ maxLen) (h1 : 1 ≤ w) (h2 : w ≤ 8) (h : p + w ≤ s.size) :
    Calls Tryd.prog 57 #[.string s, .int .i64 p, .int .i64 w] W fun e w' => e = .returned (arith.two (readF s p w)) ∧ Below W.heap.size W w' := by
  unfold maxLen at hs
  have HI := Lib.hid (fun W => width_yes w W (by omega) (by omega))
  generalize hR : readF s p w = R
  have HY : Hid (val s p w ≤ 9223372036854775807 → R = some (val s p w) ∧ IntKind.i64.wrap (val s p w) = val s p w ∧ 0 ≤ val s p w) := fun hv => ⟨hR.symm.trans (read_yes h1 h2 h hv), (val_wrap s p w h2).1 hv, (val_bd s p w).1⟩
  have HN : Hid (¬ val s p w ≤ 9223372036854775807 → R = none ∧ IntKind.i64.wrap (val s p w) < 0) := fun hv => ⟨hR.symm.trans (read_high hv), (val_wrap s p w h2).2 (by omega)⟩
  clear hR
  go_enter Tryd.func57, Tryd.ntmps57
  go_wp2_with fail
  refine (HI.out _).mono ?_
  rintro e w1 ⟨rfl, rfl⟩
  clear HI
  go_wp2_with fail
  go_loop [8, 26] (fun x j => ∃ (i : Nat) (y : Int), i ≤ w ∧ j = .int .i64 (i : Int) ∧ x = .int .i64 y ∧ y = IntKind.i64.wrap (val s p i)) (fun _ j => w - (intOf j).toNat)
  case atStart => exact ⟨0, 0, by omega, rfl, rfl, by rw [val_zero]; rfl⟩
  case round =>
    obtain ⟨i, y, hi, rfl, rfl, hy⟩ := hrel
    by_cases hlt : i < w
    · have hyv : y = val s p i := by
        rw [hy]
        have := val_room s p i (by omega)
        exact IntWalk.i64_in _ (by omega)
      have hbd := at_bd s (p + i)
      have eat := at_eq s (p + i) (by omega)
      have esh : (8 * (i : Int)).toNat = 8 * i := by omega
      have eor := val_or s p i (by omega)
      rw [← hyv] at eor
      have hyb : -9223372036854775808 ≤ y ∧ y ≤ 9223372036854775807 := by
        have := val_room s p i (by omega)
        omega
      clear hy hyv HY HN
      generalize hz : IntKind.i64.wrap (at_ s (p + i) * 2 ^ (8 * i)) = z at eor
      generalize hx : IntKind.i64.wrap (val s p (i + 1)) = x at eor
      have Hx := Lib.hid hx
      clear hx
      go_wp2_with fail
      go_round
      case rel => exact ⟨i + 1, x, by omega, by go_num, rfl, Hx.out.symm⟩
      case measure => simp [intOf]; omega
    · obtain rfl : i = w := by omega
      by_cases hv : val s p i ≤ 9223372036854775807
      · obtain ⟨h3, h4, h5⟩ := HY.out hv
        rw [h4] at hy
        have HR := Lib.hid h3
        have hy0 : 0 ≤ y := by omega
        have Hy := Lib.hid hy
        clear HY HN h3 h4 h5 hv hy
        go_wp2_with fail
        go_ret2
        exact ⟨by rw [HR.out, ← Hy.out]; rfl, Below.refl _ _⟩
      · obtain ⟨h3, h4⟩ := HN.out (by omega)
        have HR := Lib.hid h3
        have hy0 : y < 0 := by omega
        clear HY HN h3 h4 hv hy
        go_wp2_with fail
        go_ret2
        exact ⟨by rw [HR.out]; rfl, Below.refl _ _⟩
theorem impl_read (s : ByteArray) (a w : Int) (W : World) (hs : s.size ≤ maxLen) :
    Calls Tryd.prog 57 #[.string s, .int .i64 a, .int .i64 w] W fun e w' => e = .returned (arith.two (readF s a w)) ∧ Below W.heap.size W w' := by
  by_cases h : w < 1 ∨ 8 < w ∨ a < 0 ∨ (s.size : Int) - w < a
  · rw [read_no (by omega)]
    exact impl_read_no s a w W hs h
  · obtain ⟨p, rfl⟩ := Int.eq_ofNat_of_zero_le (by omega : 0 ≤ a)
    obtain ⟨k, rfl⟩ := Int.eq_ofNat_of_zero_le (by omega : 0 ≤ w)
    exact impl_read_in s p k W hs (by omega) (by omega) (by omega)
end Go.Proofs.YtljahpngngmecaaDoor.fixed
