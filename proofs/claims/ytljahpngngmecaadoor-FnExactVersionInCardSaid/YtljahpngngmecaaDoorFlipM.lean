/- Plain mathematics of inverted bits: bit by bit. -/
import Derived.Test.YtljahpngngmecaaDoorCrcM
namespace Go.Proofs.YtljahpngngmecaaDoor.crc
open Go Go.RowKit
set_option linter.unusedVariables false

theorem flip_congr (l : List UInt8) {E F : Nat} (h : E % 2 ^ (8 * l.length) = F % 2 ^ (8 * l.length)) : flipL l E = flipL l F :=
  num_inj _ _ (by rw [flip_length, flip_length]) (by rw [num_flip, num_flip, h])
/-- Bits behind the end change nothing. -/
theorem flip_far (l : List UInt8) (at' B : Nat) (h : 8 * l.length ≤ at') : flipL l (2 ^ at' * B) = l := by
  have e : flipL l (2 ^ at' * B) = flipL l 0 := flip_congr l (by
    have e1 : 2 ^ at' = 2 ^ (8 * l.length) * 2 ^ (at' - 8 * l.length) := by rw [← Nat.pow_add]; congr 1; omega
    rw [e1, Nat.mul_assoc, Nat.mul_mod_right, Nat.zero_mod])
  rw [e, flip_zero]
theorem flip_get : ∀ (l : List UInt8) (E k : Nat), k < l.length → ((flipL l E).getD k 0).toNat = (l.getD k 0).toNat ^^^ E / 2 ^ (8 * k) % 256
  | [], E, k, h => by simp at h
  | b :: l, E, 0, h => by
    show (UInt8.ofNat (b.toNat ^^^ E % 256)).toNat = b.toNat ^^^ E / 2 ^ (8 * 0) % 256
    rw [byte_xor _ _ (Nat.mod_lt _ (by decide))]
    simp
  | b :: l, E, k + 1, h => by
    show ((flipL l (E / 256)).getD k 0).toNat = (l.getD k 0).toNat ^^^ E / 2 ^ (8 * (k + 1)) % 256
    rw [flip_get l (E / 256) k (by simpa using h), Nat.div_div_eq_div_mul, fixed.nat_eight]
theorem add_bit {E p : Nat} (h : E < 2 ^ p) : E + 2 ^ p = E ^^^ 2 ^ p := by
  have := xor_high (y := 1) h
  rw [Nat.mul_one] at this
  exact this.symm
theorem bit_byte (p k : Nat) : 2 ^ p / 2 ^ (8 * k) % 256 = if k = p / 8 then 2 ^ (p % 8) else 0 := by
  apply Nat.eq_of_testBit_eq
  intro i
  have e8 : (256 : Nat) = 2 ^ 8 := rfl
  rw [e8, Nat.testBit_mod_two_pow, Nat.testBit_div_two_pow, Nat.testBit_two_pow]
  split
  · rename_i h
    subst h
    rw [Nat.testBit_two_pow]
    by_cases h1 : i < 8 <;> by_cases h2 : p = i + 8 * (p / 8)
    · have : p % 8 = i := by omega
      simp [h1, this, ← h2]
    · have : ¬ p % 8 = i := by omega
      simp [h1, this, h2]
    · omega
    · have : ¬ p % 8 = i := by omega
      simp [h1, this]
  · rename_i h
    rw [Nat.zero_testBit]
    by_cases h1 : i < 8
    · have : ¬ p = i + 8 * k := by omega
      simp [this]
    · simp [h1]
/-- One bit more. -/
theorem flip_set (l : List UInt8) (E p : Nat) (h : E < 2 ^ p) (hp : p / 8 < l.length) :
    flipL l (E + 2 ^ p) = (flipL l E).set (p / 8) (UInt8.ofNat (((flipL l E).getD (p / 8) 0).toNat ^^^ 2 ^ (p % 8))) := by
  have hlen := flip_length l E
  have hb : 2 ^ (p % 8) < 256 := Nat.lt_of_lt_of_le (Nat.pow_lt_pow_right (by decide) (Nat.mod_lt p (by decide))) (Nat.le_refl _)
  apply List.ext_getElem
  · rw [List.length_set, flip_length, flip_length]
  · intro k h1 h2
    have hk : k < l.length := by rw [flip_length] at h1; exact h1
    apply UInt8.toNat_inj.1
    have hg := flip_get l (E + 2 ^ p) k hk
    have hg0 := flip_get l E k hk
    rw [List.getD_eq_getElem?_getD, List.getElem?_eq_getElem h1, Option.getD_some] at hg
    rw [hg, add_bit h]
    have hd : (E ^^^ 2 ^ p) / 2 ^ (8 * k) % 256 = E / 2 ^ (8 * k) % 256 ^^^ 2 ^ p / 2 ^ (8 * k) % 256 := by
      rw [Nat.xor_div_two_pow]
      exact @Nat.xor_mod_two_pow _ _ 8
    rw [hd, bit_byte, ← Nat.xor_assoc, ← hg0]
    by_cases e : k = p / 8
    · rw [if_pos e]
      subst e
      rw [List.getElem_set_self, byte_xor _ _ hb]
    · rw [if_neg e, Nat.xor_zero, List.getElem_set_ne (fun x => e x.symm), List.getD_eq_getElem?_getD, List.getElem?_eq_getElem (by rw [hlen]; exact hk), Option.getD_some]
/-- Bit i of B, and what the bits below it come to. -/
theorem low_succ (B i : Nat) : B % 2 ^ (i + 1) = B % 2 ^ i + 2 ^ i * (B / 2 ^ i % 2) := by rw [Nat.pow_succ, Nat.mod_mul]
theorem flip_bit_yes (l : List UInt8) (at' B i : Nat) (hb : B / 2 ^ i % 2 = 1) (hp : (at' + i) / 8 < l.length) :
    flipL l (2 ^ at' * (B % 2 ^ (i + 1))) = (flipL l (2 ^ at' * (B % 2 ^ i))).set ((at' + i) / 8) (UInt8.ofNat (((flipL l (2 ^ at' * (B % 2 ^ i))).getD ((at' + i) / 8) 0).toNat ^^^ 2 ^ ((at' + i) % 8))) := by
  have hlt : 2 ^ at' * (B % 2 ^ i) < 2 ^ (at' + i) := by
    rw [Nat.pow_add]
    exact Nat.mul_lt_mul_of_pos_left (Nat.mod_lt _ (Nat.two_pow_pos i)) (Nat.two_pow_pos at')
  rw [low_succ, hb, Nat.mul_one, Nat.mul_add, ← Nat.pow_add]
  exact flip_set l _ (at' + i) hlt hp
theorem flip_bit_no (B i : Nat) (hb : B / 2 ^ i % 2 = 0) : B % 2 ^ (i + 1) = B % 2 ^ i := by rw [low_succ, hb, Nat.mul_zero, Nat.add_zero]
/-- All bits that meet the text are done. -/
theorem flip_done (l : List UInt8) (at' B i : Nat) (h : 8 * l.length ≤ at' + i) : flipL l (2 ^ at' * (B % 2 ^ i)) = flipL l (2 ^ at' * B) := by
  by_cases ha : 8 * l.length ≤ at'
  · rw [flip_far l _ _ ha, flip_far l _ _ ha]
  · refine flip_congr l ?_
    rw [burst_mod _ _ _ (by omega), burst_mod _ _ _ (by omega)]
    congr 1
    exact Nat.mod_mod_of_dvd _ (Nat.pow_dvd_pow 2 (by omega))
theorem flip_all (l : List UInt8) (at' B : Nat) (h : B < 4294967296) : flipL l (2 ^ at' * (B % 2 ^ 32)) = flipL l (2 ^ at' * B) := by
  rw [Nat.mod_eq_of_lt (by rw [two32]; exact h)]
end Go.Proofs.YtljahpngngmecaaDoor.crc
