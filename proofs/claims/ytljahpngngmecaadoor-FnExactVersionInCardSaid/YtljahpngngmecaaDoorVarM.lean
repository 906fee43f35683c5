/- Variable-length integers: seven bits a byte, the least significant first, the high bit set in every byte but the last. -/
import Derived.Test.YtljahpngngmecaaDoorBase
import Derived.Laws.BitsLemmas
namespace Go.Proofs.YtljahpngngmecaaDoor.varint
open Go Go.RowKit
set_option linter.unusedVariables false

/-- The bytes of n. -/
def varL (n : Nat) : List UInt8 := if n < 128 then [UInt8.ofNat n] else UInt8.ofNat (128 + n % 128) :: varL (n / 128)
termination_by n
decreasing_by omega
theorem varL_small {n : Nat} (h : n < 128) : varL n = [UInt8.ofNat n] := by rw [varL, if_pos h]
theorem varL_big {n : Nat} (h : ¬ n < 128) : varL n = UInt8.ofNat (128 + n % 128) :: varL (n / 128) := by rw [varL, if_neg h]
theorem varL_len : ∀ (k n : Nat), n < 128 ^ (k + 1) → (varL n).length ≤ k + 1
  | 0, n, h => by rw [varL_small (by omega)]; simp
  | k + 1, n, h => by
    by_cases h1 : n < 128
    · rw [varL_small h1]; simp
    · rw [varL_big h1, List.length_cons]
      have := varL_len k (n / 128) (by rw [Nat.pow_succ] at h; omega)
      omega
theorem varL_nine {n : Nat} (h : (n : Int) ≤ 9223372036854775807) : (varL n).length ≤ 9 := varL_len 8 n (by show n < 9223372036854775808; omega)
theorem varL_pos (n : Nat) : 0 < (varL n).length := by
  by_cases h1 : n < 128
  · rw [varL_small h1]; simp
  · rw [varL_big h1]; simp

def varF (n : Int) : ByteArray := if n < 0 then ⟨#[]⟩ else ⟨(varL n.toNat).toArray⟩
theorem varF_neg {n : Int} (h : n < 0) : varF n = ⟨#[]⟩ := by unfold varF; rw [if_pos h]
theorem varF_nat (n : Nat) : varF (n : Int) = ⟨(varL n).toArray⟩ := by unfold varF; rw [if_neg (by omega)]; rfl
theorem varF_size {n : Int} (h : n ≤ 9223372036854775807) : (varF n).size ≤ 9 := by
  by_cases h0 : n < 0
  · rw [varF_neg h0]; decide
  · obtain ⟨u, rfl⟩ := Int.eq_ofNat_of_zero_le (by omega : 0 ≤ n)
    rw [varF_nat]
    show (varL u).toArray.size ≤ 9
    rw [List.size_toArray]
    exact varL_nine h

/-- The number that the first i bytes at p hold. -/
def val (s : ByteArray) (p : Nat) : Nat → Int
  | 0 => 0
  | i + 1 => val s p i + (at_ s (p + i) % 128) * 2 ^ (7 * i)
theorem val_zero (s : ByteArray) (p : Nat) : val s p 0 = 0 := rfl
theorem val_succ (s : ByteArray) (p i : Nat) : val s p (i + 1) = val s p i + (at_ s (p + i) % 128) * 2 ^ (7 * i) := rfl
theorem two_pos (k : Nat) : (0 : Int) < 2 ^ k := by exact_mod_cast Nat.two_pow_pos k
theorem two_seven (i : Nat) : (2 : Int) ^ (7 * (i + 1)) = 128 * 2 ^ (7 * i) := by
  rw [show 7 * (i + 1) = 7 * i + 7 by omega, Int.pow_add, Int.mul_comm]; rfl
theorem two_le {a b : Nat} (h : a ≤ b) : (2 : Int) ^ a ≤ 2 ^ b := by exact_mod_cast Nat.pow_le_pow_right (by omega) h
theorem val_bd (s : ByteArray) (p : Nat) : ∀ i, 0 ≤ val s p i ∧ val s p i < 2 ^ (7 * i)
  | 0 => by rw [val_zero]; decide
  | i + 1 => by
    have ih := val_bd s p i
    rw [val_succ, two_seven]
    have hm : 0 ≤ at_ s (p + i) % 128 ∧ at_ s (p + i) % 128 ≤ 127 := by omega
    have h1 : (at_ s (p + i) % 128) * 2 ^ (7 * i) ≤ 127 * 2 ^ (7 * i) := Int.mul_le_mul_of_nonneg_right hm.2 (Int.le_of_lt (two_pos _))
    have h2 : 0 ≤ (at_ s (p + i) % 128) * 2 ^ (7 * i) := Int.mul_nonneg hm.1 (Int.le_of_lt (two_pos _))
    omega
/-- What stands in one round: the shifted group and the sum fit. -/
theorem val_room (s : ByteArray) (p i : Nat) (hi : i < 9) : 0 ≤ (at_ s (p + i) % 128) * 2 ^ (7 * i) ∧ (at_ s (p + i) % 128) * 2 ^ (7 * i) ≤ 9223372036854775807 ∧ 0 ≤ val s p (i + 1) ∧ val s p (i + 1) ≤ 9223372036854775807 := by
  have h0 := val_bd s p i
  have h1 := val_bd s p (i + 1)
  have h2 := two_le (show 7 * (i + 1) ≤ 63 by omega)
  have e : (2 : Int) ^ 63 = 9223372036854775808 := by decide
  rw [val_succ] at h1
  rw [val_succ]
  have h3 : 0 ≤ (at_ s (p + i) % 128) * 2 ^ (7 * i) := Int.mul_nonneg (by omega) (Int.le_of_lt (two_pos _))
  omega
/-- The same by 'or'. -/
theorem val_or (s : ByteArray) (p i : Nat) (hi : i < 9) : bits .or .i64 (val s p i) ((at_ s (p + i) % 128) * 2 ^ (7 * i)) = val s p (i + 1) := by
  have h0 := val_bd s p i
  have h1 := val_room s p i hi
  have h2 := two_le (show 7 * i ≤ 63 by omega)
  have e : (2 : Int) ^ 63 = 9223372036854775808 := by decide
  have wr : ∀ n : Int, 0 ≤ n → n < 2 ^ 63 → IntKind.i64.wrap n = n := fun n a b => IntWalk.i64_in n (by omega)
  rw [val_succ] at h1 ⊢
  have hm : 0 ≤ at_ s (p + i) % 128 := by omega
  obtain ⟨g, hg⟩ := Int.eq_ofNat_of_zero_le hm
  rw [hg] at h1 ⊢
  obtain ⟨v, hv⟩ := Int.eq_ofNat_of_zero_le h0.1
  rw [hv] at h0 h1 ⊢
  have hx : ((g : Int) * 2 ^ (7 * i)) = ((g * 2 ^ (7 * i) : Nat) : Int) := by simp
  have hv2 : v < 2 ^ (7 * i) := by exact_mod_cast h0.2
  rw [hx] at h1 ⊢
  have f1 : g * 2 ^ (7 * i) < 2 ^ 63 := by show _ < 9223372036854775808; omega
  have f2 : v < 2 ^ 63 := by show _ < 9223372036854775808; omega
  rw [(bits_nat .i64 63 (by decide) wr v (g * 2 ^ (7 * i)) f2 f1).2, Nat.or_comm, Nat.mul_comm g, ← Nat.two_pow_add_eq_or_of_lt hv2 g]
  omega

/-- The number at p and the place behind it, where i bytes have been read (all with the high bit), f more may come. -/
def look (s : ByteArray) (p : Nat) : Nat → Nat → Int × Int
  | 0, _ => (0, -1)
  | f + 1, i => if p + i < s.size then (if at_ s (p + i) < 128 then (if 0 < i ∧ at_ s (p + i) = 0 then (0, -1) else (val s p (i + 1), ((p + i + 1 : Nat) : Int))) else look s p f (i + 1)) else (0, -1)
theorem look_zero (s : ByteArray) (p i : Nat) : look s p 0 i = (0, -1) := rfl
theorem look_out {s : ByteArray} {p i : Nat} (f : Nat) (h : ¬ p + i < s.size) : look s p f i = (0, -1) := by
  cases f with
  | zero => rfl
  | succ f => rw [look, if_neg h]
theorem look_long {s : ByteArray} {p f i : Nat} (h : p + i < s.size) (hi : 0 < i) (h0 : at_ s (p + i) = 0) : look s p (f + 1) i = (0, -1) := by
  rw [look, if_pos h, if_pos (by omega), if_pos ⟨hi, h0⟩]
theorem look_last {s : ByteArray} {p f i : Nat} (h : p + i < s.size) (h1 : at_ s (p + i) < 128) (h0 : ¬ (0 < i ∧ at_ s (p + i) = 0)) : look s p (f + 1) i = (val s p (i + 1), (((p : Int) + i + 1))) := by
  rw [look, if_pos h, if_pos h1, if_neg h0]; simp
theorem look_more {s : ByteArray} {p f i : Nat} (h : p + i < s.size) (h1 : ¬ at_ s (p + i) < 128) : look s p (f + 1) i = look s p f (i + 1) := by
  rw [look, if_pos h, if_neg h1]
theorem look_bd (s : ByteArray) (p : Nat) : ∀ f i, f + i ≤ 9 → look s p f i = (0, -1) ∨ (0 ≤ (look s p f i).1 ∧ (look s p f i).1 ≤ 9223372036854775807 ∧ (p : Int) < (look s p f i).2 ∧ (look s p f i).2 ≤ s.size)
  | 0, i, _ => .inl rfl
  | f + 1, i, h => by
    by_cases h1 : p + i < s.size
    · by_cases h2 : at_ s (p + i) < 128
      · by_cases h3 : 0 < i ∧ at_ s (p + i) = 0
        · exact .inl (look_long h1 h3.1 h3.2)
        · rw [look_last h1 h2 h3]
          have := val_room s p i (by omega)
          exact .inr ⟨this.2.2.1, this.2.2.2, by show (p : Int) < p + i + 1; omega, by show (p : Int) + i + 1 ≤ _; omega⟩
      · rw [look_more h1 h2]
        exact look_bd s p f (i + 1) (by omega)
    · exact .inl (look_out _ h1)

def readF (s : ByteArray) (at' : Int) : Int × Int := if 0 ≤ at' ∧ at' < s.size then look s at'.toNat 9 0 else (0, -1)
theorem readF_out {s : ByteArray} {a : Int} (h : ¬ (0 ≤ a ∧ a < s.size)) : readF s a = (0, -1) := by unfold readF; rw [if_neg h]
theorem readF_in {s : ByteArray} {p : Nat} (h : p < s.size) : readF s p = look s p 9 0 := by unfold readF; rw [if_pos ⟨by omega, by omega⟩]; rfl
theorem readF_nat (s : ByteArray) (p : Nat) : readF s p = look s p 9 0 := by
  by_cases h : p < s.size
  · exact readF_in h
  · rw [readF_out (by omega), look_out _ (by omega)]
theorem readF_neg {s : ByteArray} {a : Int} (h : a < 0) : readF s a = (0, -1) := readF_out (by omega)
theorem readF_bd (s : ByteArray) (a : Int) : readF s a = (0, -1) ∨ (0 ≤ (readF s a).1 ∧ (readF s a).1 ≤ 9223372036854775807 ∧ 0 < (readF s a).2 ∧ (readF s a).2 ≤ s.size) := by
  by_cases h : 0 ≤ a ∧ a < s.size
  · obtain ⟨p, rfl⟩ := Int.eq_ofNat_of_zero_le h.1
    rw [readF_in (by omega)]
    rcases look_bd s p 9 0 (by omega) with e | e
    · exact .inl e
    · exact .inr ⟨e.1, e.2.1, by omega, e.2.2.2⟩
  · exact .inl (readF_out h)

/-! One reads what was written. -/
theorem at_cons {s : ByteArray} {p : Nat} {b : UInt8} {r : List UInt8} (h : s.data.toList.drop p = b :: r) : p < s.size ∧ at_ s p = b.toNat ∧ s.data.toList.drop (p + 1) = r := by
  have hl : p < s.data.toList.length := by
    rcases Nat.lt_or_ge p s.data.toList.length with h1 | h1
    · exact h1
    · rw [List.drop_eq_nil_of_le h1] at h; cases h
  rw [List.drop_eq_getElem_cons hl] at h
  injection h with h1 h2
  refine ⟨by simpa using hl, ?_, h2⟩
  unfold at_
  rw [List.getD_eq_getElem?_getD, List.getElem?_eq_getElem hl, ← h1]
  rfl
theorem byte_last {n : Nat} (h : n < 128) : (UInt8.ofNat n).toNat = n := by simp; omega
theorem byte_more (n : Nat) : (UInt8.ofNat (128 + n % 128)).toNat = 128 + n % 128 := by simp; omega
theorem look_var (s : ByteArray) (p : Nat) : ∀ (f i m : Nat) (post : List UInt8), s.data.toList.drop (p + i) = varL m ++ post → (varL m).length ≤ f → (0 < i → 0 < m) →
    look s p f i = (val s p i + m * 2 ^ (7 * i), ((p + i + (varL m).length : Nat) : Int))
  | 0, i, m, post, _, h, _ => by have := varL_pos m; omega
  | f + 1, i, m, post, hd, hl, hi => by
    by_cases h1 : m < 128
    · rw [varL_small h1] at hd ⊢
      obtain ⟨h2, h3, _⟩ := at_cons hd
      rw [byte_last h1] at h3
      rw [look_last h2 (by omega) (by omega), val_succ, h3, Int.emod_eq_of_lt (by omega) (by omega)]
      simp
    · rw [varL_big h1] at hd hl ⊢
      obtain ⟨h2, h3, h4⟩ := at_cons hd
      rw [byte_more] at h3
      rw [look_more h2 (by omega), look_var s p f (i + 1) (m / 128) post h4 (by simpa using hl) (by omega), val_succ, h3, two_seven]
      have e : (((128 + m % 128 : Nat) : Int) % 128) = ((m % 128 : Nat) : Int) := by omega
      rw [e, List.length_cons]
      congr 1
      · have e2 : (m : Int) = ((m % 128 : Nat) : Int) + 128 * ((m / 128 : Nat) : Int) := by omega
        conv => rhs; rw [e2]
        rw [Int.add_mul, Int.add_assoc, ← Int.mul_assoc, Int.mul_comm ((m / 128 : Nat) : Int) 128]
      · omega
theorem read_var {n : Nat} (hn : (n : Int) ≤ 9223372036854775807) (pre post : List UInt8) : readF ⟨(pre ++ (varL n ++ post)).toArray⟩ pre.length = ((n : Int), ((pre.length + (varL n).length : Nat) : Int)) := by
  have hp := varL_pos n
  rw [readF_in (by show _ < (pre ++ (varL n ++ post)).toArray.size; rw [List.size_toArray]; simp; omega)]
  rw [look_var _ _ 9 0 n post (by simp) (varL_nine hn) (fun h => absurd h (by omega)), val_zero]
  simp
/-- No number where all bytes have the high bit, but for a last one that is 0. -/
theorem look_none {s : ByteArray} {L : Nat} (hs : s.size = L + 1) (hL : 0 < L) (hm : ∀ j, j < L → 128 ≤ at_ s j) (h0 : at_ s L = 0) : ∀ f i, i ≤ L → look s 0 f i = (0, -1)
  | 0, i, _ => rfl
  | f + 1, i, hi => by
    by_cases e : i = L
    · subst e
      exact look_long (by omega) hL (by rw [Nat.zero_add]; exact h0)
    · rw [look_more (by omega) (by rw [Nat.zero_add]; have := hm i (by omega); omega)]
      exact look_none hs hL hm h0 f (i + 1) (by omega)
theorem varL_more : ∀ (k n : Nat), n < 128 ^ (k + 1) → ∀ j, j + 1 < (varL n).length → 128 ≤ ((varL n).getD j 0).toNat
  | 0, n, h, j, hj => by rw [varL_small (by omega)] at hj; simp at hj
  | k + 1, n, h, j, hj => by
    by_cases h1 : n < 128
    · rw [varL_small h1] at hj; simp at hj
    · rw [varL_big h1] at hj ⊢
      cases j with
      | zero => rw [List.getD_cons_zero, byte_more]; omega
      | succ j =>
        rw [List.getD_cons_succ]
        exact varL_more k (n / 128) (by rw [Nat.pow_succ] at h; omega) j (by simpa using hj)
theorem varL_last : ∀ (k n : Nat), n < 128 ^ (k + 1) → ((varL n).getD ((varL n).length - 1) 0).toNat < 128
  | 0, n, h => by rw [varL_small (by omega)]; simp; omega
  | k + 1, n, h => by
    by_cases h1 : n < 128
    · rw [varL_small h1]; simp; omega
    · rw [varL_big h1]
      have hp := varL_pos (n / 128)
      have := varL_last k (n / 128) (by rw [Nat.pow_succ] at h; omega)
      rw [List.length_cons, Nat.add_sub_cancel]
      rw [show (varL (n / 128)).length = ((varL (n / 128)).length - 1) + 1 by omega, List.getD_cons_succ]
      exact this
end Go.Proofs.YtljahpngngmecaaDoor.varint
