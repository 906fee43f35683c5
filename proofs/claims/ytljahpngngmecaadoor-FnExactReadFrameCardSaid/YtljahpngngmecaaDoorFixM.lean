/- Numbers in a fixed number of bytes, the least significant first. -/
import Derived.Test.YtljahpngngmecaaDoorVarM
namespace Go.Proofs.YtljahpngngmecaaDoor.fixed
open Go Go.RowKit
open varint (two_pos two_le)
set_option linter.unusedVariables false

theorem two_eight (i : Nat) : (2 : Int) ^ (8 * (i + 1)) = 256 * 2 ^ (8 * i) := by
  rw [show 8 * (i + 1) = 8 * i + 8 by omega, Int.pow_add, Int.mul_comm]; rfl
theorem nat_eight (i : Nat) : (2 : Nat) ^ (8 * (i + 1)) = 256 * 2 ^ (8 * i) := by
  rw [show 8 * (i + 1) = 8 * i + 8 by omega, Nat.pow_add, Nat.mul_comm]

/-- The first w bytes of n. -/
def fixL (n : Nat) : Nat → List UInt8
  | 0 => []
  | i + 1 => fixL n i ++ [UInt8.ofNat (n / 2 ^ (8 * i) % 256)]
theorem fixL_length (n : Nat) : ∀ i, (fixL n i).length = i
  | 0 => rfl
  | i + 1 => by rw [fixL, List.length_append, fixL_length n i]; rfl
theorem fixL_succ (n i : Nat) : fixL n (i + 1) = fixL n i ++ [UInt8.ofNat (n / 2 ^ (8 * i) % 256)] := rfl
theorem div_succ (n i : Nat) : n / 2 ^ (8 * i) / 256 = n / 2 ^ (8 * (i + 1)) := by
  rw [Nat.div_div_eq_div_mul, nat_eight, Nat.mul_comm]

open Classical in
/-- The bytes of n in w bytes, if it fits. -/
noncomputable def fixF (n w : Int) : ByteArray := if 0 ≤ n ∧ 1 ≤ w ∧ w ≤ 8 ∧ n < 2 ^ (8 * w.toNat) then ⟨(fixL n.toNat w.toNat).toArray⟩ else ⟨#[]⟩
theorem fix_no {n w : Int} (h : ¬ (0 ≤ n ∧ 1 ≤ w ∧ w ≤ 8 ∧ n < 2 ^ (8 * w.toNat))) : fixF n w = ⟨#[]⟩ := by unfold fixF; rw [if_neg h]
theorem fix_yes {n w : Nat} (h1 : 1 ≤ w) (h2 : w ≤ 8) (h3 : n < 2 ^ (8 * w)) : fixF n w = ⟨(fixL n w).toArray⟩ := by
  unfold fixF
  have h4 : (n : Int) < 2 ^ (8 * (w : Int).toNat) := by
    rw [Int.toNat_natCast]; exact_mod_cast h3
  rw [if_pos ⟨by omega, by omega, by omega, h4⟩]
  rfl
theorem fix_over {n w : Nat} (h3 : ¬ n < 2 ^ (8 * w)) : fixF n w = ⟨#[]⟩ := by
  refine fix_no fun h => h3 ?_
  have h4 := h.2.2.2
  rw [Int.toNat_natCast] at h4
  exact_mod_cast h4

/-- The number that the first i bytes at p hold. -/
def val (s : ByteArray) (p : Nat) : Nat → Int
  | 0 => 0
  | i + 1 => val s p i + at_ s (p + i) * 2 ^ (8 * i)
theorem val_zero (s : ByteArray) (p : Nat) : val s p 0 = 0 := rfl
theorem val_succ (s : ByteArray) (p i : Nat) : val s p (i + 1) = val s p i + at_ s (p + i) * 2 ^ (8 * i) := rfl
theorem val_bd (s : ByteArray) (p : Nat) : ∀ i, 0 ≤ val s p i ∧ val s p i < 2 ^ (8 * i)
  | 0 => by rw [val_zero]; decide
  | i + 1 => by
    have ih := val_bd s p i
    rw [val_succ, two_eight]
    have hm := at_bd s (p + i)
    have h1 : at_ s (p + i) * 2 ^ (8 * i) ≤ 255 * 2 ^ (8 * i) := Int.mul_le_mul_of_nonneg_right (by omega) (Int.le_of_lt (two_pos _))
    have h2 : 0 ≤ at_ s (p + i) * 2 ^ (8 * i) := Int.mul_nonneg hm.1 (Int.le_of_lt (two_pos _))
    omega
theorem ofInt_wrap (x : Nat) : BitVec.ofInt 64 (IntKind.i64.wrap (x : Int)) = BitVec.ofNat 64 x := by
  apply BitVec.eq_of_toNat_eq
  have e1 : ((2 ^ 64 : Nat) : Int) = 18446744073709551616 := rfl
  have e2 : (2 ^ 64 : Nat) = 18446744073709551616 := rfl
  rw [BitVec.toNat_ofInt, BitVec.toNat_ofNat, IntKind.wrap_i64, e1, e2]
  omega
theorem or_at (v x : Nat) (hv : v < 18446744073709551616) (hx : x < 18446744073709551616) (key : v ||| x = v + x) :
    bits .or .i64 (v : Int) (IntKind.i64.wrap (x : Int)) = IntKind.i64.wrap ((v : Int) + (x : Int)) := by
  have e : bits .or .i64 (v : Int) (IntKind.i64.wrap (x : Int)) = IntKind.i64.wrap (((BitVec.ofInt 64 (v : Int)) ||| (BitVec.ofInt 64 (IntKind.i64.wrap (x : Int)))).toNat : Int) := rfl
  have e2 : (2 ^ 64 : Nat) = 18446744073709551616 := rfl
  rw [e, ofInt_wrap, BitVec.ofInt_natCast, BitVec.toNat_or, BitVec.toNat_ofNat, BitVec.toNat_ofNat, e2, Nat.mod_eq_of_lt hv, Nat.mod_eq_of_lt hx, key, Int.natCast_add]
theorem room_at (i g : Nat) (hi : i < 8) (hg : g < 256) : g * 2 ^ (8 * i) + 2 ^ (8 * i) ≤ 18446744073709551616 := by
  have hle : 2 ^ (8 * (i + 1)) ≤ 2 ^ 64 := Nat.pow_le_pow_right (by omega) (by omega)
  have e2 : (2 ^ 64 : Nat) = 18446744073709551616 := rfl
  rw [nat_eight, e2] at hle
  have h1 : (g + 1) * 2 ^ (8 * i) ≤ 256 * 2 ^ (8 * i) := Nat.mul_le_mul_right _ (by omega)
  rw [Nat.add_mul, Nat.one_mul] at h1
  exact Nat.le_trans h1 hle
/-- 'n | b << 8i' of ints: the sum, as 64 bits hold it. -/
theorem or_join (v g i : Nat) (hi : i < 8) (hv : v < 2 ^ (8 * i)) (hg : g < 256) :
    bits .or .i64 (v : Int) (IntKind.i64.wrap ((g : Int) * 2 ^ (8 * i))) = IntKind.i64.wrap ((v : Int) + (g : Int) * 2 ^ (8 * i)) := by
  have hr := room_at i g hi hg
  have hx : ((g : Int) * 2 ^ (8 * i)) = ((g * 2 ^ (8 * i) : Nat) : Int) := by simp
  have key : v ||| g * 2 ^ (8 * i) = v + g * 2 ^ (8 * i) := by
    rw [Nat.or_comm, Nat.mul_comm g, ← Nat.two_pow_add_eq_or_of_lt hv g, Nat.add_comm]
  rw [hx]
  generalize 2 ^ (8 * i) = m at hr key hv
  generalize g * m = x at hr key
  exact or_at v x (by omega) (by omega) key
theorem val_or (s : ByteArray) (p i : Nat) (hi : i < 8) : bits .or .i64 (val s p i) (IntKind.i64.wrap (at_ s (p + i) * 2 ^ (8 * i))) = IntKind.i64.wrap (val s p (i + 1)) := by
  have h0 := val_bd s p i
  have h1 := at_bd s (p + i)
  rw [val_succ]
  obtain ⟨v, hv⟩ := Int.eq_ofNat_of_zero_le h0.1
  obtain ⟨g, hg⟩ := Int.eq_ofNat_of_zero_le h1.1
  rw [hv] at h0 ⊢
  rw [hg] at h1 ⊢
  exact or_join v g i hi (by exact_mod_cast h0.2) (by omega)
/-- All but an eighth byte fit. -/
theorem val_room (s : ByteArray) (p i : Nat) (hi : i < 8) : 0 ≤ val s p i ∧ val s p i < 72057594037927936 := by
  have h0 := val_bd s p i
  have h2 := two_le (show 8 * i ≤ 56 by omega)
  have e : (2 : Int) ^ 56 = 72057594037927936 := by decide
  omega
theorem low_fits (s : ByteArray) (p w : Nat) (h : w < 8) : val s p w ≤ 9223372036854775807 := by
  have := val_room s p w h
  omega
theorem val_eight (s : ByteArray) (p : Nat) : val s p 8 = val s p 7 + at_ s (p + 7) * 72057594037927936 := by
  have e : (2 : Int) ^ 56 = 72057594037927936 := by decide
  rw [val_succ, show 8 * 7 = 56 from rfl, e]
theorem val_all (s : ByteArray) (p i : Nat) (hi : i ≤ 8) : 0 ≤ val s p i ∧ val s p i < 18446744073709551616 := by
  have h0 := val_bd s p i
  have h2 := two_le (show 8 * i ≤ 64 by omega)
  have e : (2 : Int) ^ 64 = 18446744073709551616 := by decide
  omega
/-- How 64 bits hold it: itself, or a negative number. -/
theorem val_wrap (s : ByteArray) (p i : Nat) (hi : i ≤ 8) : (val s p i ≤ 9223372036854775807 → IntKind.i64.wrap (val s p i) = val s p i) ∧ (9223372036854775807 < val s p i → IntKind.i64.wrap (val s p i) < 0) := by
  have h := val_all s p i hi
  constructor
  · intro h1; exact IntWalk.i64_in _ (by omega)
  · intro h1; rw [IntKind.wrap_i64]; omega
/-- From the top: what has been read above i. -/
theorem val_top (s : ByteArray) (p i w : Nat) (x : Int) (h : x * 2 ^ (8 * (i + 1)) + val s p (i + 1) = val s p w) : (256 * x + at_ s (p + i)) * 2 ^ (8 * i) + val s p i = val s p w := by
  rw [← h, two_eight, val_succ, Int.add_mul, ← Int.mul_assoc, Int.mul_comm x 256]
  omega
theorem top_bd {x m v t : Int} (h : x * m + v = t) (h0 : 0 ≤ x) (hm : 1 ≤ m) (hv : 0 ≤ v) : x ≤ t := by
  have : x * 1 ≤ x * m := Int.mul_le_mul_of_nonneg_left hm h0
  omega
theorem one_le_two (k : Nat) : (1 : Int) ≤ 2 ^ k := two_pos k

/-- The number of w bytes at a, if there is one. -/
def readF (s : ByteArray) (a w : Int) : Option Int := if 1 ≤ w ∧ w ≤ 8 ∧ 0 ≤ a ∧ a ≤ s.size - w ∧ val s a.toNat w.toNat ≤ 9223372036854775807 then some (val s a.toNat w.toNat) else none
theorem read_no {s : ByteArray} {a w : Int} (h : ¬ (1 ≤ w ∧ w ≤ 8 ∧ 0 ≤ a ∧ a ≤ s.size - w ∧ val s a.toNat w.toNat ≤ 9223372036854775807)) : readF s a w = none := by unfold readF; rw [if_neg h]
theorem read_yes {s : ByteArray} {p w : Nat} (h1 : 1 ≤ w) (h2 : w ≤ 8) (h3 : p + w ≤ s.size) (h4 : val s p w ≤ 9223372036854775807) : readF s p w = some (val s p w) := by
  unfold readF
  rw [Int.toNat_natCast, Int.toNat_natCast, if_pos ⟨by omega, by omega, by omega, by omega, h4⟩]
theorem read_high {s : ByteArray} {p w : Nat} (h4 : ¬ val s p w ≤ 9223372036854775807) : readF s p w = none := by
  refine read_no fun h => h4 ?_
  have := h.2.2.2.2
  rw [Int.toNat_natCast, Int.toNat_natCast] at this
  exact this

/-! One reads what was written. -/
theorem fixL_get (n : Nat) : ∀ w i, i < w → (fixL n w).getD i 0 = UInt8.ofNat (n / 2 ^ (8 * i) % 256)
  | 0, i, h => by omega
  | w + 1, i, h => by
    rw [fixL_succ]
    by_cases e : i = w
    · subst e
      rw [List.getD_eq_getElem?_getD, List.getElem?_append_right (by rw [fixL_length]; exact Nat.le_refl _), fixL_length, Nat.sub_self]
      rfl
    · rw [List.getD_eq_getElem?_getD, List.getElem?_append_left (by rw [fixL_length]; omega), ← List.getD_eq_getElem?_getD]
      exact fixL_get n w i (by omega)
theorem val_fix (s : ByteArray) (p n w : Nat) (h : ∀ i, i < w → at_ s (p + i) = ((n / 2 ^ (8 * i) % 256 : Nat) : Int)) : ∀ i, i ≤ w → val s p i = ((n % 2 ^ (8 * i) : Nat) : Int)
  | 0, _ => by rw [val_zero]; simp [Nat.mod_one]
  | i + 1, hi => by
    rw [val_succ, val_fix s p n w h i (by omega), h i (by omega)]
    have e : n % 2 ^ (8 * (i + 1)) = n % 2 ^ (8 * i) + 2 ^ (8 * i) * (n / 2 ^ (8 * i) % 256) := by
      rw [nat_eight, Nat.mul_comm 256, Nat.mod_mul]
    rw [e, Int.natCast_add, Int.natCast_mul, Int.mul_comm]
    simp
theorem read_fix {n w : Nat} (pre : List UInt8) (h1 : 1 ≤ w) (h2 : w ≤ 8) (h3 : n < 2 ^ (8 * w)) (h4 : (n : Int) ≤ 9223372036854775807) : readF ⟨(pre ++ fixL n w).toArray⟩ pre.length w = some (n : Int) := by
  have hv : val ⟨(pre ++ fixL n w).toArray⟩ pre.length w = (n : Int) := by
    rw [val_fix _ pre.length n w ?_ w (Nat.le_refl _), Nat.mod_eq_of_lt h3]
    intro i hi
    unfold at_
    have e : (pre ++ fixL n w).toArray.toList = pre ++ fixL n w := rfl
    show (((pre ++ fixL n w).toArray.toList.getD (pre.length + i) 0).toNat : Int) = _
    rw [e, List.getD_eq_getElem?_getD, List.getElem?_append_right (by omega), Nat.add_sub_cancel_left, ← List.getD_eq_getElem?_getD, fixL_get n w i hi]
    simp
  rw [read_yes h1 h2 ?_ (by rw [hv]; exact h4), hv]
  show _ ≤ (pre ++ fixL n w).toArray.size
  rw [List.size_toArray, List.length_append, fixL_length]
  exact Nat.le_refl _
end Go.Proofs.YtljahpngngmecaaDoor.fixed
