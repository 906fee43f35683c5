/- ReadWhole of a number's own digits, and of a few texts. -/
import Derived.Test.YtamlkieeiflgkaaDoorWholeM
namespace Go.Proofs.YtamlkieeiflgkaaDoor.whole
open Go Go.RowKit
set_option linter.unusedVariables false

theorem dec_head (u : Nat) : 1 ≤ u → ((Lib.decDigits u).getD 0 0).toNat ≠ 48 := by
  induction u using Nat.strongRecOn with
  | _ u ih =>
    intro hu
    rw [Lib.decDigits]
    by_cases h : u < 10
    · rw [dif_pos h]
      simp
      omega
    · rw [dif_neg h]
      have h1 := ih (u / 10) (by omega) (by omega)
      have h2 := num.dec_ne (u / 10)
      cases hl : Lib.decDigits (u / 10) with
      | nil => exact absurd hl h2
      | cons a r =>
        rw [hl] at h1
        simpa using h1
theorem dec_canon (u : Nat) : canon (Lib.decDigits u) := by
  refine ⟨num.dec_ne u, num.dec_isD u, ?_⟩
  by_cases h : u = 0
  · left
    subst h
    rw [Lib.decDigits, dif_pos (by decide)]
    rfl
  · exact .inr (dec_head u (by omega))
theorem isD_dig {c : UInt8} (h : num.isD c) : split.dig c = true := by
  unfold num.isD at h
  unfold split.dig
  simp
  omega
/-- A text of other bytes l, digits d, and a space. -/
theorem run_of {s : ByteArray} {p : Nat} {d : List UInt8} (h : s.data.toList.drop p = d ++ [32]) (hd : ∀ c ∈ d, num.isD c) : run s p = d.length ∧ figs s p = d ∧ p + d.length < s.size ∧ at_ s (p + d.length) = 32 := by
  have e : s.data.toList.length = s.size := by simp
  have h1 : run s p = d.length := by
    unfold run
    rw [h, split.ld_app d [32] (fun c hc => isD_dig (hd c hc))]
    rfl
  have hl : (s.data.toList.drop p).length = d.length + 1 := by rw [h]; simp
  rw [List.length_drop, e] at hl
  refine ⟨h1, ?_, by omega, ?_⟩
  · unfold figs
    rw [h1, h]
    simp
  · unfold at_
    rw [← getD_drop, h]
    simp
theorem good_of {s : ByteArray} {p : Nat} {d : List UInt8} (h : s.data.toList.drop p = d ++ [32]) (hc : canon d) : ¬ bad s p := by
  obtain ⟨h1, h2, h3, h4⟩ := run_of h hc.2.1
  unfold bad
  rw [h1]
  have hne : d.length ≠ 0 := fun e => hc.1 (List.eq_nil_of_length_eq_zero e)
  rintro (hb | ⟨hb, hb2⟩ | ⟨hb, hb2⟩)
  · exact hne hb
  · rcases hc.2.2 with h5 | h5
    · omega
    · have h6 := figs_get s p 0 (by omega)
      rw [h2, Nat.add_zero] at h6
      omega
  · omega
theorem back (n : Int) (h0 : -9223372036854775808 ≤ n) (h1 : n ≤ 9223372036854775807) : wholeF (⟨(Lib.itoa n).toArray⟩ ++ ⟨#[32]⟩) 0 = (n, ((⟨(Lib.itoa n).toArray⟩ : ByteArray).size : Int)) := by
  obtain ⟨s, hs⟩ : ∃ s : ByteArray, s = ⟨(Lib.itoa n).toArray⟩ ++ ⟨#[32]⟩ := ⟨_, rfl⟩
  have hl : s.data.toList = Lib.itoa n ++ [32] := by rw [hs]; simp
  have e : s.data.toList.length = s.size := by simp
  have hsz : s.size = (Lib.itoa n).length + 1 := by rw [← e, hl]; simp
  have hz : (⟨(Lib.itoa n).toArray⟩ : ByteArray).size = (Lib.itoa n).length := by show (Lib.itoa n).toArray.size = _; rw [List.size_toArray]
  rw [← hs, hz]
  have hin := whole_in (s := s) (a := 0) (by omega)
  rw [show ((0 : Nat) : Int) = 0 from rfl] at hin
  rw [hin]
  by_cases hn : 0 ≤ n
  · obtain ⟨u, rfl⟩ := Int.eq_ofNat_of_zero_le hn
    rw [num.itoa_nat] at hl ⊢
    have hc := dec_canon u
    have hd : s.data.toList.drop 0 = Lib.decDigits u ++ [32] := by rw [List.drop_zero, hl]
    obtain ⟨r1, r2, r3, r4⟩ := run_of hd hc.2.1
    have hg := good_of hd hc
    have h45 : at_ s 0 ≠ 45 := by
      have hp : 0 < run s 0 := by
        rcases Nat.eq_zero_or_pos (run s 0) with e0 | e0
        · exact absurd (.inl e0) hg
        · exact e0
      have := run_dig (s := s) (p := 0) (k := 0) hp
      rw [Nat.add_zero] at this
      omega
    unfold wholeN head
    rw [if_neg h45, if_neg hg, if_neg h45]
    unfold spells
    rw [r2, num.dec_fold, if_pos (by omega), r1, Nat.zero_add]
  · have hi : Lib.itoa n = 45 :: Lib.decDigits n.natAbs := by rw [Lib.itoa, if_pos (by omega)]
    rw [hi] at hl ⊢
    have hc := dec_canon n.natAbs
    have hd : s.data.toList.drop 1 = Lib.decDigits n.natAbs ++ [32] := by rw [hl]; rfl
    obtain ⟨r1, r2, r3, r4⟩ := run_of hd hc.2.1
    have hg := good_of hd hc
    have h45 : at_ s 0 = 45 := by unfold at_; rw [hl]; rfl
    unfold wholeN head
    rw [if_pos h45, Nat.zero_add, if_neg hg, if_pos h45]
    unfold spells
    rw [r2, num.dec_fold, if_pos (by omega), r1]
    refine Prod.ext ?_ ?_
    · show -(n.natAbs : Int) = n
      omega
    · show ((1 + (Lib.decDigits n.natAbs).length : Nat) : Int) = ((45 :: Lib.decDigits n.natAbs).length : Int)
      rw [List.length_cons]
      omega
theorem itoa_le (n : Int) (h0 : -9223372036854775808 ≤ n) (h1 : n ≤ 9223372036854775807) : (⟨(Lib.itoa n).toArray⟩ : ByteArray).size ≤ 20 := by
  by_cases hn : 0 ≤ n
  · obtain ⟨_, _, _, h⟩ := readnum.pos_yes n hn h1
    exact h
  · exact readnum.neg_len n (by omega) h0
theorem least_w : wholeF ⟨#[45, 57, 50, 50, 51, 51, 55, 50, 48, 51, 54, 56, 53, 52, 55, 55, 53, 56, 48, 56]⟩ 0 = (-9223372036854775808, 20) := by decide +kernel
theorem part_w : wholeF ⟨#[49, 46, 53]⟩ 0 = (0, -1) := by decide +kernel
theorem power_w : wholeF ⟨#[49, 101, 51]⟩ 0 = (0, -1) := by decide +kernel
theorem nought_w : wholeF ⟨#[48, 49]⟩ 0 = (0, -1) := by decide +kernel
theorem above_w : wholeF ⟨#[57, 50, 50, 51, 51, 55, 50, 48, 51, 54, 56, 53, 52, 55, 55, 53, 56, 48, 56]⟩ 0 = (0, -1) := by decide +kernel
end Go.Proofs.YtamlkieeiflgkaaDoor.whole
