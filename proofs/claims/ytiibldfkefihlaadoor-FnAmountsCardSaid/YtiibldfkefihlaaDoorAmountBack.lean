/- Quantities, plain: what AmountText writes, ReadAmount reads. -/
import Derived.Test.YtiibldfkefihlaaDoorAmountM
import Derived.Test.YtiibldfkefihlaaDoorNumTop
namespace Go.Proofs.YtiibldfkefihlaaDoor.amount
open Go.ChangeShapes Go.WideShapes Go.ChangeAt Go.RowKit
set_option linter.unusedVariables false

theorem dec_head (u : Nat) (h : 1 < (Lib.decDigits u).length) : ((Lib.decDigits u).getD 0 0).toNat ≠ 48 := by
  intro e
  have hf := num.dec_fold u
  have hd := num.dec_isD u
  have hl := num.dec_len
  generalize hL : Lib.decDigits u = L at h e hf hd
  match L, h with
  | b :: r, h =>
    have hb : b.toNat = 48 := by simpa using e
    rw [num.foldD_cons, hb] at hf
    simp only [List.length_cons] at h
    have hlt := num.foldD_lt r 0 0 (fun c hc => hd c (List.mem_cons_of_mem _ hc)) (by decide)
    have hu : u < 10 ^ (r.length - 1 + 1) := by
      have e2 : r.length - 1 + 1 = r.length := by omega
      rw [e2]
      have e3 : num.foldD 0 r = u := hf
      rw [e3] at hlt
      simpa using hlt
    have := hl _ _ hu
    rw [hL] at this
    simp only [List.length_cons] at this
    omega
theorem dec_dig (u : Nat) : ∀ c ∈ Lib.decDigits u, split.dig c = true := by
  intro c hc
  have := num.dec_isD u c hc
  unfold num.isD at this
  unfold split.dig
  simp only [Bool.and_eq_true, decide_eq_true_eq]
  exact this
theorem read_num (u : Nat) (sf : List UInt8) (un : Int) (hu : u ≤ 9223372036854775807) (hs : unit.unitL sf = some un) (h0 : split.ld sf = 0) (hl : sf.length ≤ 2) (hm : (u : Int) * un ≤ 9223372036854775807) :
    readF ⟨(Lib.decDigits u ++ sf).toArray⟩ = ((u : Int) * un, 0) := by
  have hlen := num.dec_len 18 u (by omega)
  have hb := unit.unit_bd (s := ⟨sf.toArray⟩) (x := un) hs
  have hlead : split.lead ⟨(Lib.decDigits u ++ sf).toArray⟩ = (Lib.decDigits u).length := by
    show split.ld (Lib.decDigits u ++ sf) = _
    rw [split.ld_app _ _ (dec_dig u), h0, Nat.add_zero]
  have h1 : split.fst ⟨(Lib.decDigits u ++ sf).toArray⟩ = ⟨(Lib.decDigits u).toArray⟩ := by
    refine split.mk_eq ?_
    rw [split.fst_list, hlead]
    show (Lib.decDigits u ++ sf).take _ = _
    rw [List.take_left']
    rfl
  have h2 : split.snd ⟨(Lib.decDigits u ++ sf).toArray⟩ = ⟨sf.toArray⟩ := by
    refine split.mk_eq ?_
    rw [split.snd_list, hlead]
    show (Lib.decDigits u ++ sf).drop _ = _
    rw [List.drop_left']
    rfl
  have hn : readnum.Num 9223372036854775807 ⟨(Lib.decDigits u).toArray⟩ u := ⟨hu, rfl⟩
  rw [read_short (by show ¬ 40 < (Lib.decDigits u ++ sf).toArray.size; rw [List.size_toArray, List.length_append]; omega), h1, h2]
  refine g_yes (u := un) hs ?_ (readnum.yes_flag hn) ?_
  · rintro (h | ⟨h, h'⟩)
    · have e : (Lib.decDigits u).toArray.size = 0 := h
      rw [List.size_toArray] at e
      exact num.dec_ne u (List.eq_nil_of_length_eq_zero e)
    · have e : 1 < (Lib.decDigits u).toArray.size := h
      rw [List.size_toArray] at e
      have := dec_head u e
      have h3 : (((Lib.decDigits u).getD 0 0).toNat : Int) = 48 := h'
      omega
  · rw [readnum.yes_res hn]
    exact arith.mul_yes (by omega) (by omega) hm
theorem suf_unit : ∀ k, k ≤ 4 → unit.unitL (suf k) = some (1000 * 1024 ^ k) ∧ split.ld (suf k) = 0 ∧ (suf k).length ≤ 2 := by decide
/-- ReadAmount undoes AmountText. -/
theorem read_text (n : Int) (h0 : 0 ≤ n) (h1 : n ≤ 9223372036854775807) : readF (textF n) = (n, 0) := by
  by_cases h2 : n % 1000 = 0
  · obtain ⟨k, hk, hk2, hk3⟩ := dv_val 4 (n / 1000).toNat (Nat.le_refl _)
    have hle := dv_le 4 (n / 1000).toNat (Nat.le_refl _)
    have e : textF n = ⟨(Lib.decDigits (dv 4 (n / 1000).toNat).1 ++ suf (dv 4 (n / 1000).toNat).2).toArray⟩ := by
      unfold textF textL
      rw [if_neg (by omega), if_neg (fun e => e h2), num.itoa_nat]
    have hk4 : (dv 4 (n / 1000).toNat).2 = k := by omega
    rw [e, hk4]
    obtain ⟨s1, s2, s3⟩ := suf_unit k hk
    have hv : (((dv 4 (n / 1000).toNat).1 : Nat) : Int) * (1000 * 1024 ^ k) = n := by
      have h3 : (((dv 4 (n / 1000).toNat).1 * 1024 ^ k : Nat) : Int) = n / 1000 := by rw [hk3]; omega
      rw [Int.natCast_mul, Int.natCast_pow] at h3
      have h4 : (((dv 4 (n / 1000).toNat).1 : Nat) : Int) * (1000 * 1024 ^ k) = 1000 * ((((dv 4 (n / 1000).toNat).1 : Nat) : Int) * 1024 ^ k) := by
        rw [← Int.mul_assoc, Int.mul_comm _ 1000, Int.mul_assoc]
      rw [h4]
      have h5 : ((1024 : Nat) : Int) = 1024 := rfl
      rw [h5] at h3
      rw [h3]
      omega
    have := read_num (dv 4 (n / 1000).toNat).1 (suf k) (1000 * 1024 ^ k) (by omega) s1 s2 s3 (by rw [hv]; exact h1)
    rw [this, hv]
  · obtain ⟨u, rfl⟩ := Int.eq_ofNat_of_zero_le h0
    have e : textF (u : Int) = ⟨(Lib.decDigits u ++ [109]).toArray⟩ := by
      unfold textF textL
      rw [if_neg (by omega), if_pos h2, num.itoa_nat]
    rw [e, read_num u [109] 1 (by omega) (by decide) (by decide) (by decide) (by omega)]
    simp
theorem read_milli (n : Int) (h0 : 0 ≤ n) (h1 : n ≤ 9223372036854775807) : readF (⟨(Lib.itoa n).toArray⟩ ++ ⟨#[109]⟩) = (n, 0) := by
  obtain ⟨u, rfl⟩ := Int.eq_ofNat_of_zero_le h0
  have e : (⟨(Lib.itoa (u : Int)).toArray⟩ ++ ⟨#[109]⟩ : ByteArray) = ⟨(Lib.decDigits u ++ [109]).toArray⟩ := by
    rw [num.itoa_nat]
    exact bytes_append _ [109]
  rw [e, read_num u [109] 1 (by omega) (by decide) (by decide) (by decide) (by omega)]
  simp
theorem text_size (n : Int) (h1 : n ≤ 9223372036854775807) : (textF n).size ≤ 21 := by
  by_cases hn : n < 0
  · rw [text_neg hn]; decide
  have hsz : ∀ (u : Nat) (sf : List UInt8), u ≤ 9223372036854775807 → sf.length ≤ 2 → (⟨(Lib.decDigits u ++ sf).toArray⟩ : ByteArray).size ≤ 21 := by
    intro u sf hu hs
    have hlen := num.dec_len 18 u (by omega)
    show (Lib.decDigits u ++ sf).toArray.size ≤ 21
    rw [List.size_toArray, List.length_append]
    omega
  by_cases h2 : n % 1000 = 0
  · have hle := dv_le 4 (n / 1000).toNat (Nat.le_refl _)
    rw [text_even hn h2, bytes_append, num.itoa_nat]
    exact hsz _ _ (by omega) (suf_unit _ hle.2).2.2
  · obtain ⟨u, rfl⟩ := Int.eq_ofNat_of_zero_le (a := n) (by omega)
    rw [text_odd hn h2, num.itoa_nat]
    have := hsz u [109] (by omega) (by decide)
    rw [← bytes_append] at this
    exact this
theorem norm_text (n : Int) (h0 : 0 ≤ n) (h1 : n ≤ 9223372036854775807) : normF (textF n) = (textF n, 0) := by
  unfold normF
  rw [read_text n h0 h1]
  rfl
theorem ord_text (n : Int) (h0 : 0 ≤ n) (h1 : n ≤ 9223372036854775807) : ordF (textF n) (⟨(Lib.itoa n).toArray⟩ ++ ⟨#[109]⟩) = (0, true) := by
  unfold ordF
  rw [read_text n h0 h1, read_milli n h0 h1]
  simp [arith.cmpF]
end Go.Proofs.YtiibldfkefihlaaDoor.amount
