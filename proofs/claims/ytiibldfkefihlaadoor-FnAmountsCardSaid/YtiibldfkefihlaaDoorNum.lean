/- Plain mathematics of decimal numerals: what the digits spell; a numeral's own digits spell its number; strconv's parse gives it back. Of no program. -/
import Derived.Lib.ItoaNum
import Derived.Lib.AtoiAllCases
namespace Go.Proofs.YtiibldfkefihlaaDoor.num
open Go

def isD (c : UInt8) : Prop := 48 ≤ c.toNat ∧ c.toNat ≤ 57
def stepD (n : Nat) (c : UInt8) : Nat := 10 * n + (c.toNat - 48)
def foldD (acc : Nat) (l : List UInt8) : Nat := l.foldl stepD acc
theorem foldD_nil (acc : Nat) : foldD acc [] = acc := by simp only [foldD, List.foldl_nil]
theorem foldD_cons (acc : Nat) (c : UInt8) (r : List UInt8) : foldD acc (c :: r) = foldD (10 * acc + (c.toNat - 48)) r := by simp only [foldD, List.foldl_cons, stepD]
theorem foldD_snoc (l : List UInt8) (c : UInt8) (acc : Nat) : foldD acc (l ++ [c]) = 10 * foldD acc l + (c.toNat - 48) := by simp only [foldD, List.foldl_append, List.foldl_cons, List.foldl_nil, stepD]
theorem foldD_ge (l : List UInt8) : ∀ acc : Nat, acc ≤ foldD acc l := by
  induction l with
  | nil => intro acc; rw [foldD_nil]; exact Nat.le_refl _
  | cons c l ih =>
    intro acc
    rw [foldD_cons]
    exact Nat.le_trans (by omega) (ih _)
theorem foldD_lt (l : List UInt8) : ∀ (acc k : Nat), (∀ c ∈ l, isD c) → acc < 10 ^ k → foldD acc l < 10 ^ (k + l.length) := by
  induction l with
  | nil => intro acc k _ h; rw [foldD_nil]; exact h
  | cons c l ih =>
    intro acc k hd h
    have hc := hd c (by simp)
    unfold isD at hc
    have h2 : 10 * acc + (c.toNat - 48) < 10 ^ (k + 1) := by
      rw [Nat.pow_succ]
      generalize 10 ^ k = m at h
      omega
    rw [foldD_cons]
    have := ih _ (k + 1) (fun x hx => hd x (by simp [hx])) h2
    rw [List.length_cons, show k + (l.length + 1) = k + 1 + l.length by omega]
    exact this

theorem dec_isD (u : Nat) : ∀ c ∈ Lib.decDigits u, isD c := by
  induction u using Nat.strongRecOn with
  | _ u ih =>
    intro c hc
    rw [Lib.decDigits] at hc
    by_cases h : u < 10
    · rw [dif_pos h] at hc
      simp only [List.mem_singleton] at hc
      subst hc
      unfold isD
      simp
      omega
    · rw [dif_neg h] at hc
      rcases List.mem_append.1 hc with h1 | h1
      · exact ih (u / 10) (by omega) c h1
      · simp only [List.mem_singleton] at h1
        subst h1
        unfold isD
        simp
        omega
theorem dec_fold (u : Nat) : foldD 0 (Lib.decDigits u) = u := by
  induction u using Nat.strongRecOn with
  | _ u ih =>
    rw [Lib.decDigits]
    by_cases h : u < 10
    · rw [dif_pos h, foldD_cons, foldD_nil]; simp; omega
    · rw [dif_neg h, foldD_snoc, ih (u / 10) (by omega)]
      simp
      omega
theorem dec_ne (u : Nat) : Lib.decDigits u ≠ [] := by
  rw [Lib.decDigits]
  by_cases h : u < 10
  · rw [dif_pos h]; simp
  · rw [dif_neg h]; simp
theorem dec_len : ∀ (k u : Nat), u < 10 ^ (k + 1) → (Lib.decDigits u).length ≤ k + 1
  | 0, u, h => by rw [Lib.decDigits, dif_pos (by simpa using h)]; simp
  | k + 1, u, h => by
    rw [Lib.decDigits]
    by_cases h1 : u < 10
    · rw [dif_pos h1]; simp
    · rw [dif_neg h1]
      have := dec_len k (u / 10) (by rw [Nat.pow_succ] at h; omega)
      simp; omega

theorem parse_fold (l : List UInt8) : ∀ acc : Nat, (∀ c ∈ l, isD c) → foldD acc l < 9223372036854775808 → Lib.parseUint10 acc l = .ok (foldD acc l) := by
  induction l with
  | nil => intro acc _ _; rw [foldD_nil, Lib.parseUint10]
  | cons c l ih =>
    intro acc hd hb
    have hc := hd c (by simp)
    unfold isD at hc
    rw [foldD_cons] at hb ⊢
    have hge := foldD_ge l (10 * acc + (c.toNat - 48))
    have hr := ih (10 * acc + (c.toNat - 48)) (fun x hx => hd x (by simp [hx])) hb
    have h2 : 10 * acc + (c.toNat - 48) < 9223372036854775808 := Nat.lt_of_le_of_lt hge hb
    rw [Lib.parseUint10, if_pos hc, if_neg (by omega), if_neg (by omega), show acc * 10 + (c.toNat - 48) = 10 * acc + (c.toNat - 48) by omega]
    exact hr

theorem itoa_nat (u : Nat) : Lib.itoa (u : Int) = Lib.decDigits u := by unfold Lib.itoa; rw [if_neg (by omega)]; simp
theorem atoi_dec (u : Nat) (h : u < 9223372036854775808) : Lib.atoiAll (Lib.decDigits u) = .ok (u : Int) := by
  have hne := dec_ne u
  have hd := dec_isD u
  have hf := dec_fold u
  have hp := parse_fold (Lib.decDigits u) 0 hd (by rw [hf]; exact h)
  rw [hf] at hp
  cases hl : Lib.decDigits u with
  | nil => exact absurd hl hne
  | cons c r =>
    rw [hl] at hd hp
    have hc := hd c (by simp)
    unfold isD at hc
    rw [Lib.atoiAll_plain c r (by omega) (by omega)]
    unfold Lib.parseMag
    rw [if_neg (by simp), hp]
    unfold Lib.signless
    simp only
    rw [if_neg (by omega)]
end Go.Proofs.YtiibldfkefihlaaDoor.num
