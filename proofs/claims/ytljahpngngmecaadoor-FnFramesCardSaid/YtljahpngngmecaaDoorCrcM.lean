/- Plain mathematics of the checksum: the register's step is linear and one-to-one, so no burst of up to 32 bits goes unseen. -/
import Derived.Test.YtljahpngngmecaaDoorFixM
namespace Go.Proofs.YtljahpngngmecaaDoor.crc
open Go Go.RowKit
set_option linter.unusedVariables false

/-! One step of the register, k steps. -/
def Z (r : Nat) : Nat := r / 2 ^^^ (if r % 2 = 1 then 3988292384 else 0)
def Zk : Nat → Nat → Nat
  | 0, r => r
  | k + 1, r => Zk k (Z r)
theorem two32 : (2 ^ 32 : Nat) = 4294967296 := rfl
theorem Z_odd {r : Nat} (h : r % 2 = 1) : Z r = r / 2 ^^^ 3988292384 := by unfold Z; rw [if_pos h]
theorem Z_even {r : Nat} (h : r % 2 = 0) : Z r = r / 2 := by unfold Z; rw [if_neg (by omega), Nat.xor_zero]
theorem Z_lt {r : Nat} (h : r < 4294967296) : Z r < 4294967296 := by
  have h1 : r / 2 ^^^ (if r % 2 = 1 then 3988292384 else 0) < 2 ^ 32 := Nat.xor_lt_two_pow (by rw [two32]; omega) (by rw [two32]; split <;> omega)
  rw [two32] at h1
  exact h1
theorem mod2_xor (a b : Nat) : (a ^^^ b) % 2 = (a % 2) ^^^ (b % 2) := by
  have h := @Nat.xor_mod_two_pow a b 1
  simpa using h
theorem Z_xor (a b : Nat) : Z (a ^^^ b) = Z a ^^^ Z b := by
  have hd : (a ^^^ b) / 2 = a / 2 ^^^ b / 2 := Nat.xor_div_two
  have hm := mod2_xor a b
  rcases Nat.mod_two_eq_zero_or_one a with ha | ha <;> rcases Nat.mod_two_eq_zero_or_one b with hb | hb <;> rw [ha, hb] at hm
  · rw [Z_even ha, Z_even hb, Z_even (hm.trans (by decide)), hd]
  · rw [Z_even ha, Z_odd hb, Z_odd (hm.trans (by decide)), hd, Nat.xor_assoc]
  · rw [Z_odd ha, Z_even hb, Z_odd (hm.trans (by decide)), hd, Nat.xor_assoc, Nat.xor_assoc, Nat.xor_comm (b / 2)]
  · rw [Z_odd ha, Z_odd hb, Z_even (hm.trans (by decide)), hd, Nat.xor_assoc, Nat.xor_comm 3988292384 (b / 2 ^^^ 3988292384), Nat.xor_assoc, Nat.xor_self, Nat.xor_zero]
theorem xor_zero_eq {a b : Nat} (h : a ^^^ b = 0) : a = b := by
  have h1 : a ^^^ b ^^^ b = 0 ^^^ b := by rw [h]
  rw [Nat.xor_assoc, Nat.xor_self, Nat.xor_zero, Nat.zero_xor] at h1
  exact h1
theorem Z_kernel {r : Nat} (h : r < 4294967296) (hz : Z r = 0) : r = 0 := by
  rcases Nat.mod_two_eq_zero_or_one r with hr | hr
  · rw [Z_even hr] at hz; omega
  · rw [Z_odd hr] at hz
    have := xor_zero_eq hz
    omega
theorem Zk_xor : ∀ (k a b : Nat), Zk k (a ^^^ b) = Zk k a ^^^ Zk k b
  | 0, a, b => rfl
  | k + 1, a, b => by unfold Zk; rw [Z_xor, Zk_xor k]
theorem Zk_lt : ∀ (k : Nat) {r : Nat}, r < 4294967296 → Zk k r < 4294967296
  | 0, r, h => h
  | k + 1, r, h => Zk_lt k (Z_lt h)
theorem Zk_ne : ∀ (k : Nat) {r : Nat}, r < 4294967296 → r ≠ 0 → Zk k r ≠ 0
  | 0, r, h, h0 => h0
  | k + 1, r, h, h0 => Zk_ne k (Z_lt h) (fun e => h0 (Z_kernel h e))
theorem Zk_inj (k : Nat) {a b : Nat} (ha : a < 4294967296) (hb : b < 4294967296) (h : Zk k a = Zk k b) : a = b := by
  refine xor_zero_eq ?_
  rcases Nat.eq_zero_or_pos (a ^^^ b) with h0 | h0
  · exact h0
  · have hl : a ^^^ b < 2 ^ 32 := Nat.xor_lt_two_pow (by rw [two32]; exact ha) (by rw [two32]; exact hb)
    rw [two32] at hl
    have := Zk_ne k hl (by omega)
    rw [Zk_xor, h, Nat.xor_self] at this
    exact absurd rfl this
theorem Zk_add : ∀ (a b r : Nat), Zk (a + b) r = Zk b (Zk a r)
  | 0, b, r => by rw [Nat.zero_add]; rfl
  | a + 1, b, r => by rw [Nat.add_right_comm]; show Zk (a + b) (Z r) = _; rw [Zk_add a b]; rfl
theorem Zk_mul : ∀ (k y : Nat), Zk k (2 ^ k * y) = y
  | 0, y => by show 2 ^ 0 * y = y; omega
  | k + 1, y => by
    have e : 2 ^ (k + 1) * y = 2 * (2 ^ k * y) := by rw [Nat.pow_succ, Nat.mul_comm (2 ^ k) 2, Nat.mul_assoc]
    show Zk k (Z (2 ^ (k + 1) * y)) = y
    rw [e, Z_even (by omega), Nat.mul_div_cancel_left _ (by decide), Zk_mul k y]
theorem xor_high {b y k : Nat} (h : b < 2 ^ k) : b ^^^ 2 ^ k * y = b + 2 ^ k * y := by
  apply Nat.eq_of_testBit_eq
  intro i
  rw [Nat.testBit_xor, Nat.testBit_two_pow_mul, Nat.add_comm b, Nat.testBit_two_pow_mul_add _ h]
  by_cases hi : i < k
  · simp [hi, Nat.not_le.2 hi]
  · have : b.testBit i = false := Nat.testBit_lt_two_pow (Nat.lt_of_lt_of_le h (Nat.pow_le_pow_right (by omega) (by omega)))
    simp [hi, this, Nat.le_of_not_lt hi]

/-! Bytes. -/
def step (r b : Nat) : Nat := Zk 8 (r ^^^ b)
def more (r : Nat) (l : List UInt8) : Nat := l.foldl (fun r b => step r b.toNat) r
theorem more_nil (r : Nat) : more r [] = r := rfl
theorem more_cons (r : Nat) (b : UInt8) (l : List UInt8) : more r (b :: l) = more (step r b.toNat) l := rfl
theorem more_append (r : Nat) (l m : List UInt8) : more r (l ++ m) = more (more r l) m := by unfold more; rw [List.foldl_append]
theorem more_snoc (r : Nat) (l : List UInt8) (b : UInt8) : more r (l ++ [b]) = step (more r l) b.toNat := by rw [more_append]; rfl
theorem step_lt {r b : Nat} (hr : r < 4294967296) (hb : b < 256) : step r b < 4294967296 := by
  refine Zk_lt 8 ?_
  have hl : r ^^^ b < 2 ^ 32 := Nat.xor_lt_two_pow (by rw [two32]; exact hr) (by rw [two32]; omega)
  rw [two32] at hl
  exact hl
theorem more_lt : ∀ (l : List UInt8) {r : Nat}, r < 4294967296 → more r l < 4294967296
  | [], r, h => h
  | b :: l, r, h => more_lt l (step_lt h b.toNat_lt)
/-- With a table of the 256 steps of a byte. -/
theorem step_table (r b : Nat) (hb : b < 256) : step r b = r / 256 ^^^ Zk 8 ((r ^^^ b) % 256) := by
  have e : r ^^^ b = (r ^^^ b) % 256 ^^^ 2 ^ 8 * ((r ^^^ b) / 256) := by
    rw [xor_high (show (r ^^^ b) % 256 < 2 ^ 8 from Nat.mod_lt _ (by decide))]
    show _ = (r ^^^ b) % 256 + 256 * ((r ^^^ b) / 256)
    omega
  have hd : (r ^^^ b) / 256 = r / 256 := by
    have h := @Nat.xor_div_two_pow r b 8
    have e8 : (2 ^ 8 : Nat) = 256 := rfl
    rw [e8, Nat.div_eq_of_lt hb, Nat.xor_zero] at h
    exact h
  unfold step
  conv => lhs; rw [e]
  rw [Zk_xor, Zk_mul, hd, Nat.xor_comm]

/-- The bytes as one number, the first the least. -/
def num : List UInt8 → Nat
  | [] => 0
  | b :: l => b.toNat + 256 * num l
theorem num_cons (b : UInt8) (l : List UInt8) : num (b :: l) = b.toNat ^^^ 2 ^ 8 * num l := by
  rw [xor_high (show b.toNat < 2 ^ 8 from b.toNat_lt)]
  rfl
theorem num_lt : ∀ l : List UInt8, num l < 2 ^ (8 * l.length)
  | [] => by decide
  | b :: l => by
    have ih := num_lt l
    have hb := b.toNat_lt
    rw [List.length_cons, fixed.nat_eight]
    show b.toNat + 256 * num l < _
    omega
theorem more_num : ∀ (l : List UInt8) (r : Nat), more r l = Zk (8 * l.length) (r ^^^ num l)
  | [], r => by show r = r ^^^ 0; rw [Nat.xor_zero]
  | b :: l, r => by
    rw [more_cons, more_num l, num_cons, List.length_cons, show 8 * (l.length + 1) = 8 + 8 * l.length by omega, Zk_add]
    congr 1
    unfold step
    rw [← Nat.xor_assoc, Zk_xor 8 _ (2 ^ 8 * num l), Zk_mul]
theorem num_inj : ∀ (l m : List UInt8), l.length = m.length → num l = num m → l = m
  | [], [], _, _ => rfl
  | [], b :: m, h, _ => by simp at h
  | a :: l, [], h, _ => by simp at h
  | a :: l, b :: m, h, hn => by
    have ha := a.toNat_lt
    have hb := b.toNat_lt
    have hn2 : a.toNat + 256 * num l = b.toNat + 256 * num m := hn
    have e1 : a.toNat = b.toNat := by omega
    have e2 : num l = num m := by omega
    rw [num_inj l m (by simpa using h) e2, UInt8.toNat_inj.1 e1]
theorem fixL_cons (n : Nat) : ∀ i, fixed.fixL n (i + 1) = UInt8.ofNat (n % 256) :: fixed.fixL (n / 256) i
  | 0 => by
    show [] ++ [UInt8.ofNat (n / 2 ^ (8 * 0) % 256)] = _
    simp [fixed.fixL]
  | i + 1 => by
    rw [fixed.fixL_succ n (i + 1), fixL_cons n i, fixed.fixL_succ (n / 256) i, List.cons_append]
    have e : n / 256 / 2 ^ (8 * i) = n / 2 ^ (8 * (i + 1)) := by rw [Nat.div_div_eq_div_mul, fixed.nat_eight]
    rw [e]
theorem num_fix : ∀ (i n : Nat), num (fixed.fixL n i) = n % 2 ^ (8 * i)
  | 0, n => by show 0 = n % 1; rw [Nat.mod_one]
  | i + 1, n => by
    rw [fixL_cons]
    show (UInt8.ofNat (n % 256)).toNat + 256 * num (fixed.fixL (n / 256) i) = _
    rw [num_fix i, fixed.nat_eight, Nat.mod_mul]
    have e : (UInt8.ofNat (n % 256)).toNat = n % 256 := by simp
    rw [e]

/-! Sums, sealed texts. -/
def sum (l : List UInt8) : Nat := more 4294967295 l ^^^ 4294967295
theorem sum_lt (l : List UInt8) : sum l < 4294967296 := by
  have h := more_lt l (show 4294967295 < 4294967296 by decide)
  have hl : sum l < 2 ^ 32 := Nat.xor_lt_two_pow (by rw [two32]; exact h) (by decide)
  rw [two32] at hl
  exact hl
def seal_ (l : List UInt8) : List UInt8 := l ++ fixed.fixL (sum l) 4
theorem seal_length (l : List UInt8) : (seal_ l).length = l.length + 4 := by unfold seal_; rw [List.length_append, fixed.fixL_length]
/-- The register behind a sealed text is always the same. -/
theorem more_seal (l : List UInt8) : more 4294967295 (seal_ l) = Zk 32 4294967295 := by
  unfold seal_
  rw [more_append, more_num (fixed.fixL (sum l) 4), fixed.fixL_length, num_fix]
  have e : sum l % 2 ^ (8 * 4) = sum l := Nat.mod_eq_of_lt (sum_lt l)
  rw [e]
  unfold sum
  rw [← Nat.xor_assoc, Nat.xor_self, Nat.zero_xor]
/-- E's bits inverted. -/
def flipL : List UInt8 → Nat → List UInt8
  | [], _ => []
  | b :: l, E => UInt8.ofNat (b.toNat ^^^ E % 256) :: flipL l (E / 256)
theorem flip_length : ∀ (l : List UInt8) (E : Nat), (flipL l E).length = l.length
  | [], _ => rfl
  | b :: l, E => by show (flipL l (E / 256)).length + 1 = _; rw [flip_length l]; rfl
theorem byte_xor (b : UInt8) (x : Nat) (hx : x < 256) : (UInt8.ofNat (b.toNat ^^^ x)).toNat = b.toNat ^^^ x := by
  have h : b.toNat ^^^ x < 2 ^ 8 := Nat.xor_lt_two_pow b.toNat_lt hx
  rw [UInt8.toNat_ofNat']
  exact Nat.mod_eq_of_lt h
theorem num_flip : ∀ (l : List UInt8) (E : Nat), num (flipL l E) = num l ^^^ E % 2 ^ (8 * l.length)
  | [], E => by show 0 = 0 ^^^ E % 1; rw [Nat.mod_one]; rfl
  | b :: l, E => by
    have e : E % 2 ^ (8 * (l.length + 1)) = E % 256 ^^^ 2 ^ 8 * (E / 256 % 2 ^ (8 * l.length)) := by
      rw [xor_high (show E % 256 < 2 ^ 8 from Nat.mod_lt _ (by decide)), fixed.nat_eight, Nat.mod_mul]
    have e2 : 2 ^ 8 * (num l ^^^ E / 256 % 2 ^ (8 * l.length)) = 2 ^ 8 * num l ^^^ 2 ^ 8 * (E / 256 % 2 ^ (8 * l.length)) := by
      apply Nat.eq_of_testBit_eq
      intro i
      rw [Nat.testBit_xor, Nat.testBit_two_pow_mul, Nat.testBit_two_pow_mul, Nat.testBit_two_pow_mul, Nat.testBit_xor]
      by_cases hi : 8 ≤ i <;> simp [hi]
    show num (UInt8.ofNat (b.toNat ^^^ E % 256) :: flipL l (E / 256)) = _
    rw [num_cons, num_flip l, byte_xor _ _ (Nat.mod_lt _ (by decide)), num_cons, List.length_cons, e, e2]
    rw [Nat.xor_assoc, Nat.xor_assoc, ← Nat.xor_assoc (E % 256), Nat.xor_comm (E % 256) (2 ^ 8 * num l), Nat.xor_assoc]
theorem flip_flip : ∀ (l : List UInt8) (E : Nat), flipL (flipL l E) E = l
  | [], _ => rfl
  | b :: l, E => by
    show UInt8.ofNat ((UInt8.ofNat (b.toNat ^^^ E % 256)).toNat ^^^ E % 256) :: flipL (flipL l (E / 256)) (E / 256) = _
    rw [flip_flip l, byte_xor _ _ (Nat.mod_lt _ (by decide)), Nat.xor_assoc, Nat.xor_self, Nat.xor_zero, UInt8.ofNat_toNat]
theorem flip_zero : ∀ (l : List UInt8), flipL l 0 = l
  | [] => rfl
  | b :: l => by
    show UInt8.ofNat (b.toNat ^^^ 0 % 256) :: flipL l (0 / 256) = _
    rw [Nat.zero_mod, Nat.xor_zero, Nat.zero_div, flip_zero l, UInt8.ofNat_toNat]
/-- The bits of a burst that meet the text. -/
theorem burst_mod (at' B n : Nat) (h : at' ≤ n) : (2 ^ at' * B) % 2 ^ n = 2 ^ at' * (B % 2 ^ (n - at')) := by
  have e : 2 ^ n = 2 ^ at' * 2 ^ (n - at') := by rw [← Nat.pow_add]; congr 1; omega
  rw [e, Nat.mul_mod_mul_left]
theorem burst_odd (B k : Nat) (hk : 0 < k) (hB : B % 2 = 1) : B % 2 ^ k ≠ 0 := by
  obtain ⟨j, rfl⟩ : ∃ j, k = j + 1 := ⟨k - 1, by omega⟩
  intro h
  have h1 : B % 2 ^ (j + 1) % 2 = B % 2 := by rw [Nat.pow_succ, Nat.mul_comm, Nat.mod_mul_right_mod]
  omega
theorem flip_ne (l : List UInt8) (at' B : Nat) (ha : at' < 8 * l.length) (hB : B % 2 = 1) : flipL l (2 ^ at' * B) ≠ l := by
  intro h
  have h1 := num_flip l (2 ^ at' * B)
  rw [h, burst_mod _ _ _ (by omega)] at h1
  have h2 : num l ^^^ num l = num l ^^^ (num l ^^^ 2 ^ at' * (B % 2 ^ (8 * l.length - at'))) := by rw [← h1]
  rw [← Nat.xor_assoc, Nat.xor_self, Nat.zero_xor] at h2
  have h3 := burst_odd B (8 * l.length - at') (by omega) hB
  have h4 := Nat.two_pow_pos at'
  have h5 : 0 < 2 ^ at' * (B % 2 ^ (8 * l.length - at')) := Nat.mul_pos h4 (Nat.pos_of_ne_zero h3)
  omega
/-- A burst moves the register. -/
theorem burst_seen (l m : List UInt8) (r at' B : Nat) (ha : at' < 8 * l.length) (hB : B % 2 = 1) (hB2 : B < 4294967296) (hm : m = flipL l (2 ^ at' * B)) : more r m ≠ more r l := by
  subst hm
  intro h
  rw [more_num, more_num, flip_length, num_flip, ← Nat.xor_assoc, Zk_xor, burst_mod _ _ _ (by omega)] at h
  have h2 : Zk (8 * l.length) (2 ^ at' * (B % 2 ^ (8 * l.length - at'))) = 0 := by
    have h3 := congrArg (fun x => Zk (8 * l.length) (r ^^^ num l) ^^^ x) h
    simp only [← Nat.xor_assoc, Nat.xor_self, Nat.zero_xor] at h3
    exact h3
  have e : 8 * l.length = at' + (8 * l.length - at') := by omega
  generalize hk : 8 * l.length - at' = k at h2 e
  rw [e, Zk_add, Zk_mul] at h2
  exact Zk_ne k (Nat.lt_of_le_of_lt (Nat.mod_le _ _) hB2) (burst_odd B k (by omega) hB) h2
/-- So what a burst has hit is not sealed. -/
theorem burst_unsealed (t u : List UInt8) (at' B : Nat) (ha : at' < 8 * (t.length + 4)) (hB : B % 2 = 1) (hB2 : B < 4294967296) : flipL (seal_ t) (2 ^ at' * B) ≠ seal_ u := by
  intro h
  have h1 := burst_seen (seal_ t) (seal_ u) 4294967295 at' B (by rw [seal_length]; exact ha) hB hB2 h.symm
  rw [more_seal, more_seal] at h1
  exact h1 rfl
end Go.Proofs.YtljahpngngmecaaDoor.crc
