/- The numerals at the top of the range, and of negative numbers. -/
import Derived.Test.YtiibldfkefihlaaDoorReadNumM
namespace Go.Proofs.YtiibldfkefihlaaDoor.readnum
open Go.ChangeShapes Go.WideShapes Go.ChangeAt Go.RowKit
set_option linter.unusedVariables false

theorem top_dec : Lib.decDigits 9223372036854775807 = [57, 50, 50, 51, 51, 55, 50, 48, 51, 54, 56, 53, 52, 55, 55, 53, 56, 48, 55] := by
  simp [Lib.decDigits]
theorem top_yes : Num 9223372036854775807 ⟨#[57, 50, 50, 51, 51, 55, 50, 48, 51, 54, 56, 53, 52, 55, 55, 53, 56, 48, 55]⟩ 9223372036854775807 := ⟨Nat.le_refl _, top_dec.symm⟩
theorem above_no (n : Nat) : ¬ Num 9223372036854775807 ⟨#[57, 50, 50, 51, 51, 55, 50, 48, 51, 54, 56, 53, 52, 55, 55, 53, 56, 48, 56]⟩ n := by
  rintro ⟨h1, h2⟩
  have h3 := num.dec_fold n
  rw [← h2] at h3
  have h4 : num.foldD 0 [57, 50, 50, 51, 51, 55, 50, 48, 51, 54, 56, 53, 52, 55, 55, 53, 56, 48, 56] = 9223372036854775808 := by decide
  have h5 : num.foldD 0 [57, 50, 50, 51, 51, 55, 50, 48, 51, 54, 56, 53, 52, 55, 55, 53, 56, 48, 56] = n := h3
  omega
theorem neg_no (m : Nat) (k : Int) (hk : k < 0) (n : Nat) : ¬ Num m ⟨(Lib.itoa k).toArray⟩ n := by
  rintro ⟨h1, h2⟩
  have h3 : Lib.itoa k = Lib.decDigits n := h2
  have h4 : (45 : UInt8) ∈ Lib.itoa k := by rw [Lib.itoa, if_pos hk]; simp
  rw [h3] at h4
  have h5 := num.dec_isD n 45 h4
  unfold num.isD at h5
  exact absurd h5.1 (by decide)
theorem pos_yes (k : Int) (h0 : 0 ≤ k) (h1 : k ≤ 9223372036854775807) : ∃ n : Nat, k = (n : Int) ∧ Num 9223372036854775807 ⟨(Lib.itoa k).toArray⟩ n ∧ (⟨(Lib.itoa k).toArray⟩ : ByteArray).size ≤ 20 := by
  obtain ⟨n, rfl⟩ := Int.eq_ofNat_of_zero_le h0
  refine ⟨n, rfl, ⟨by omega, ?_⟩, ?_⟩
  · show Lib.itoa (n : Int) = _
    rw [num.itoa_nat]
  · show (Lib.itoa (n : Int)).toArray.size ≤ 20
    rw [List.size_toArray, num.itoa_nat]
    have := num.dec_len 18 n (by omega)
    omega
theorem neg_len (k : Int) (h0 : k < 0) (h1 : -9223372036854775808 ≤ k) : (⟨(Lib.itoa k).toArray⟩ : ByteArray).size ≤ 20 := by
  show (Lib.itoa k).toArray.size ≤ 20
  rw [List.size_toArray, Lib.itoa, if_pos h0]
  simp only [List.length_cons]
  have := num.dec_len 18 k.natAbs (by omega)
  omega
end Go.Proofs.YtiibldfkefihlaaDoor.readnum
