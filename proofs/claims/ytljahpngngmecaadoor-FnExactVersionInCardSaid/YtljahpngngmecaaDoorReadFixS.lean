/- spec.ReadFixed. -/
import Derived.Test.YtljahpngngmecaaDoorFixM
import Derived.Test.YtljahpngngmecaaDoorInS
namespace Go.Proofs.YtljahpngngmecaaDoor.fixed
open Go.ChangeShapes Go.WideShapes Go.ChangeAt Go.RowKit
set_option linter.unusedVariables false

theorem spec_read_w (s : ByteArray) (a w : Int) (W : World) (h : w < 1 ∨ 8 < w) :
    Calls Tryd.prog 34 #[.string s, .int .i64 a, .int .i64 w] W fun e w' => e = .returned (.tuple #[.int .i64 0, .bool false]) ∧ Below W.heap.size W w' := by
  have HI := Lib.hid (fun W => arith.in_no w 1 8 W h)
  clear h
  go_enter Tryd.func34, Tryd.ntmps34
  go_wp2_with fail
  refine (HI.out _).mono ?_
  rintro e w1 ⟨rfl, rfl⟩
  go_wp2_with fail
  go_ret2
  exact ⟨rfl, Below.refl _ _⟩
theorem spec_read_a (s : ByteArray) (a w : Int) (W : World) (hs : s.size ≤ maxLen) (h1 : 1 ≤ w) (h2 : w ≤ 8) (h : a < 0 ∨ (s.size : Int) - w < a) :
    Calls Tryd.prog 34 #[.string s, .int .i64 a, .int .i64 w] W fun e w' => e = .returned (.tuple #[.int .i64 0, .bool false]) ∧ Below W.heap.size W w' := by
  unfold maxLen at hs
  have HI := Lib.hid (fun W => arith.in_yes w 1 8 W h1 h2)
  have HJ := Lib.hid (fun W => arith.in_no a 0 ((s.size : Int) - w) W h)
  clear h
  go_enter Tryd.func34, Tryd.ntmps34
  go_wp2_with fail
  refine (HI.out _).mono ?_
  rintro e w1 ⟨rfl, rfl⟩
  go_wp2_with fail
  refine (HJ.out _).mono ?_
  rintro e w1 ⟨rfl, rfl⟩
  go_wp2_with fail
  go_ret2
  exact ⟨rfl, Below.refl _ _⟩
set_option maxRecDepth 100000 in
theorem spec_read_high (s : ByteArray) (p : Nat) (W : World) (hs : s.size ≤ maxLen) (h : p + 8 ≤ s.size) (hh : 127 < at_ s (p + 7)) :
    Calls Tryd.prog 34 #[.string s, .int .i64 p, .int .i64 8] W fun e w' => e = .returned (.tuple #[.int .i64 0, .bool false]) ∧ Below W.heap.size W w' := by
  unfold maxLen at hs
  have HI := Lib.hid (fun W => arith.in_yes 8 1 8 W (by decide) (by decide))
  have HJ := Lib.hid (fun W => arith.in_yes p 0 ((s.size : Int) - 8) W (by omega) (by omega))
  have eat := at_eq s (p + 7) (by omega)
  go_enter Tryd.func34, Tryd.ntmps34
  go_wp2_with fail
  refine (HI.out _).mono ?_
  rintro e w1 ⟨rfl, rfl⟩
  go_wp2_with fail
  refine (HJ.out _).mono ?_
  rintro e w1 ⟨rfl, rfl⟩
  go_wp2_with fail
  go_ret2
  exact ⟨rfl, Below.refl _ _⟩
set_option maxRecDepth 100000 in
theorem spec_read_in (s : ByteArray) (p w : Nat) (W : World) (hs : s.size ≤ maxLen) (h1 : 1 ≤ w) (h2 : w ≤ 8) (h : p + w ≤ s.size) (hv : val s p w ≤ 9223372036854775807) (htop : w = 8 → at_ s (p + 7) ≤ 127) :
    Calls Tryd.prog 34 #[.string s, .int .i64 p, .int .i64 w] W fun e w' => e = .returned (.tuple #[.int .i64 (val s p w), .bool true]) ∧ Below W.heap.size W w' := by
  unfold maxLen at hs
  have HI := Lib.hid (fun W => arith.in_yes w 1 8 W (by omega) (by omega))
  have HJ := Lib.hid (fun W => arith.in_yes p 0 ((s.size : Int) - w) W (by omega) (by omega))
  generalize hF : val s p w = F at hv
  have HF := Lib.hid hF
  clear hF
  by_cases h8 : w = 8
  · subst h8
    have eat := at_eq s (p + 7) (by omega)
    have ht := htop rfl
    go_enter Tryd.func34, Tryd.ntmps34
    go_wp2_with fail
    refine (HI.out _).mono ?_
    rintro e w1 ⟨rfl, rfl⟩
    go_wp2_with fail
    refine (HJ.out _).mono ?_
    rintro e w1 ⟨rfl, rfl⟩
    clear HI HJ htop
    go_wp2_with fail
    clear eat ht
    go_loop [8, 9] (fun x j => ∃ (i : Nat) (y : Int), i ≤ 8 ∧ j = .int .i64 ((i : Int) - 1) ∧ x = .int .i64 y ∧ 0 ≤ y ∧ Hid (y * 2 ^ (8 * i) + val s p i = F)) (fun _ j => (intOf j + 1).toNat)
    case atStart => exact ⟨8, 0, by omega, rfl, rfl, by omega, by show (0 : Int) * _ + _ = _; rw [Int.zero_mul, Int.zero_add]; exact HF.out⟩
    case round =>
      obtain ⟨i, y, hi, rfl, rfl, hy, hinv⟩ := hrel
      cases i with
      | zero =>
        have Hr : Hid (y = F) := by
          have := hinv.out
          rw [val_zero] at this
          unfold Hid
          simpa using this
        clear hinv
        go_wp2_with fail
        go_ret2
        exact ⟨by rw [← Hr.out]; rfl, Below.refl _ _⟩
      | succ i =>
        have hbd := at_bd s (p + i)
        have eat := at_eq s (p + i) (by omega)
        have hnext := (val_top s p i 8 y (hinv.out.trans HF.out.symm)).trans HF.out
        have hbig := top_bd hnext (by omega) (one_le_two _) (val_bd s p i).1
        have ej : (((i + 1 : Nat) : Int) - 1) = (i : Int) := by omega
        have Hnext := Lib.hid hnext
        clear hnext hinv
        rw [ej]
        go_wp2_with fail
        go_round
        case rel => exact ⟨i, 256 * y + at_ s (p + i), by omega, by go_num, by go_num, by omega, Hnext.out⟩
        case measure => simp [intOf]
  · have e8 : ((w : Int) == 8) = false := by simp; omega
    go_enter Tryd.func34, Tryd.ntmps34
    go_wp2_with fail
    refine (HI.out _).mono ?_
    rintro e w1 ⟨rfl, rfl⟩
    go_wp2_with fail
    refine (HJ.out _).mono ?_
    rintro e w1 ⟨rfl, rfl⟩
    clear HI HJ htop
    go_wp2_with fail
    clear e8
    go_loop [8, 9] (fun x j => ∃ (i : Nat) (y : Int), i ≤ w ∧ j = .int .i64 ((i : Int) - 1) ∧ x = .int .i64 y ∧ 0 ≤ y ∧ Hid (y * 2 ^ (8 * i) + val s p i = F)) (fun _ j => (intOf j + 1).toNat)
    case atStart => exact ⟨w, 0, by omega, rfl, rfl, by omega, by show (0 : Int) * _ + _ = _; rw [Int.zero_mul, Int.zero_add]; exact HF.out⟩
    case round =>
      obtain ⟨i, y, hi, rfl, rfl, hy, hinv⟩ := hrel
      cases i with
      | zero =>
        have Hr : Hid (y = F) := by
          have := hinv.out
          rw [val_zero] at this
          unfold Hid
          simpa using this
        clear hinv
        go_wp2_with fail
        go_ret2
        exact ⟨by rw [← Hr.out]; rfl, Below.refl _ _⟩
      | succ i =>
        have hbd := at_bd s (p + i)
        have eat := at_eq s (p + i) (by omega)
        have hnext := (val_top s p i w y (hinv.out.trans HF.out.symm)).trans HF.out
        have hbig := top_bd hnext (by omega) (one_le_two _) (val_bd s p i).1
        have ej : (((i + 1 : Nat) : Int) - 1) = (i : Int) := by omega
        have Hnext := Lib.hid hnext
        clear hnext hinv
        rw [ej]
        go_wp2_with fail
        go_round
        case rel => exact ⟨i, 256 * y + at_ s (p + i), by omega, by go_num, by go_num, by omega, Hnext.out⟩
        case measure => simp [intOf]
theorem top_high (s : ByteArray) (p : Nat) : val s p 8 ≤ 9223372036854775807 ↔ at_ s (p + 7) ≤ 127 := by
  have h := val_room s p 7 (by omega)
  rw [val_eight]
  omega
theorem spec_read (s : ByteArray) (a w : Int) (W : World) (hs : s.size ≤ maxLen) :
    Calls Tryd.prog 34 #[.string s, .int .i64 a, .int .i64 w] W fun e w' => e = .returned (arith.two (readF s a w)) ∧ Below W.heap.size W w' := by
  by_cases h1 : w < 1 ∨ 8 < w
  · rw [read_no (by omega)]
    exact spec_read_w s a w W h1
  by_cases h2 : a < 0 ∨ (s.size : Int) - w < a
  · rw [read_no (by omega)]
    exact spec_read_a s a w W hs (by omega) (by omega) h2
  obtain ⟨p, rfl⟩ := Int.eq_ofNat_of_zero_le (by omega : 0 ≤ a)
  obtain ⟨k, rfl⟩ := Int.eq_ofNat_of_zero_le (by omega : 0 ≤ w)
  by_cases hv : val s p k ≤ 9223372036854775807
  · rw [read_yes (by omega) (by omega) (by omega) hv]
    exact spec_read_in s p k W hs (by omega) (by omega) (by omega) hv (fun e => by subst e; exact (top_high s p).1 hv)
  · rw [read_high hv]
    obtain rfl : k = 8 := by
      by_cases e : k = 8
      · exact e
      · exact absurd (low_fits s p k (by omega)) hv
    exact spec_read_high s p W hs (by omega) (by have := mt (top_high s p).2 hv; omega)
end Go.Proofs.YtljahpngngmecaaDoor.fixed
