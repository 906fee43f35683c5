/- Plain mathematics of the checksum's functions: exclusive or of ints, a byte by its two halves, texts, sealed texts, inverted bits. -/
import Derived.Test.YtljahpngngmecaaDoorFlipM
namespace Go.Proofs.YtljahpngngmecaaDoor.crc
open Go Go.RowKit
set_option linter.unusedVariables false

theorem xor_int (a b : Nat) (ha : a < 4294967296) (hb : b < 4294967296) : bits .xor .i64 (a : Int) (b : Int) = ((a ^^^ b : Nat) : Int) := by
  have e : bits .xor .i64 (a : Int) (b : Int) = IntKind.i64.wrap (((BitVec.ofInt 64 (a : Int)) ^^^ (BitVec.ofInt 64 (b : Int))).toNat : Int) := rfl
  have e2 : (2 ^ 64 : Nat) = 18446744073709551616 := rfl
  have hl : a ^^^ b < 2 ^ 32 := Nat.xor_lt_two_pow (by rw [two32]; exact ha) (by rw [two32]; exact hb)
  rw [two32] at hl
  rw [e, BitVec.ofInt_natCast, BitVec.ofInt_natCast, BitVec.toNat_xor, BitVec.toNat_ofNat, BitVec.toNat_ofNat, e2, Nat.mod_eq_of_lt (by omega), Nat.mod_eq_of_lt (by omega)]
  exact IntWalk.i64_in _ (by omega)
theorem xor_lt {a b : Nat} (ha : a < 4294967296) (hb : b < 4294967296) : a ^^^ b < 4294967296 := by
  have hl : a ^^^ b < 2 ^ 32 := Nat.xor_lt_two_pow (by rw [two32]; exact ha) (by rw [two32]; exact hb)
  rw [two32] at hl
  exact hl
theorem and_int (a m k : Nat) (ha : a < 4294967296) (hk : k ≤ 32) (hm : m = 2 ^ k - 1) : bits .and .i64 (a : Int) (m : Int) = ((a % 2 ^ k : Nat) : Int) := by
  have e : bits .and .i64 (a : Int) (m : Int) = IntKind.i64.wrap (((BitVec.ofInt 64 (a : Int)) &&& (BitVec.ofInt 64 (m : Int))).toNat : Int) := rfl
  have e2 : (2 ^ 64 : Nat) = 18446744073709551616 := rfl
  have hp : 2 ^ k ≤ 2 ^ 32 := Nat.pow_le_pow_right (by decide) hk
  rw [two32] at hp
  have hl : a % 2 ^ k ≤ a := Nat.mod_le _ _
  have hm2 : m < 18446744073709551616 := by omega
  rw [e, BitVec.ofInt_natCast, BitVec.ofInt_natCast, BitVec.toNat_and, BitVec.toNat_ofNat, BitVec.toNat_ofNat, e2, Nat.mod_eq_of_lt (by omega), Nat.mod_eq_of_lt hm2]
  subst hm
  rw [Nat.and_two_pow_sub_one_eq_mod]
  generalize a % 2 ^ k = q at hl
  exact IntWalk.i64_in _ (by omega)
theorem and15 (a : Nat) (ha : a < 4294967296) : bits .and .i64 (a : Int) 15 = ((a % 16 : Nat) : Int) := and_int a 15 4 ha (by decide) (by decide)
theorem and1 (a : Nat) (ha : a < 4294967296) : bits .and .i64 (a : Int) 1 = ((a % 2 : Nat) : Int) := and_int a 1 1 ha (by decide) (by decide)
theorem xor_u8 (a b : Nat) (ha : a < 256) (hb : b < 256) : bits .xor .u8 (a : Int) (b : Int) = ((a ^^^ b : Nat) : Int) := by
  have e : bits .xor .u8 (a : Int) (b : Int) = IntKind.u8.wrap (((BitVec.ofInt 8 (a : Int)) ^^^ (BitVec.ofInt 8 (b : Int))).toNat : Int) := rfl
  have e2 : (2 ^ 8 : Nat) = 256 := rfl
  have hl : a ^^^ b < 2 ^ 8 := Nat.xor_lt_two_pow (by rw [e2]; exact ha) (by rw [e2]; exact hb)
  rw [e2] at hl
  rw [e, BitVec.ofInt_natCast, BitVec.ofInt_natCast, BitVec.toNat_xor, BitVec.toNat_ofNat, BitVec.toNat_ofNat, e2, Nat.mod_eq_of_lt ha, Nat.mod_eq_of_lt hb, IntKind.wrap_u8]
  omega

theorem xor_half (z : Nat) (h : z < 4294967296) : bits .xor .i64 ((z : Int) / 2) 3988292384 = ((z / 2 ^^^ 3988292384 : Nat) : Int) := by
  have e := xor_int (z / 2) 3988292384 (by omega) (by decide)
  rw [Int.natCast_ediv] at e
  exact e
/-! A byte by its two halves. -/
theorem half (r : Nat) : Zk 4 r = r / 16 ^^^ Zk 4 (r % 16) := by
  have e : r = r % 16 ^^^ 2 ^ 4 * (r / 16) := by
    rw [xor_high (show r % 16 < 2 ^ 4 from Nat.mod_lt _ (by decide))]
    show _ = r % 16 + 16 * (r / 16)
    omega
  conv => lhs; rw [e]
  rw [Zk_xor, Zk_mul, Nat.xor_comm]
theorem step_halves (r b : Nat) : step r b = Zk 4 (Zk 4 (r ^^^ b)) := Zk_add 4 4 (r ^^^ b)
theorem Zk_succ (k r : Nat) : Zk (k + 1) r = Z (Zk k r) := by rw [Zk_add]; rfl

/-! Texts. -/
def pre (r : Nat) (s : ByteArray) (i : Nat) : Nat := more r (s.data.toList.take i)
theorem pre_zero (r : Nat) (s : ByteArray) : pre r s 0 = r := rfl
theorem pre_succ (r : Nat) (s : ByteArray) (i : Nat) (h : i < s.size) : pre r s (i + 1) = step (pre r s i) s[i].toNat := by
  unfold pre
  rw [take_snoc s i h, more_snoc]
theorem pre_all (r : Nat) (s : ByteArray) : pre r s s.size = more r s.data.toList := by
  unfold pre
  rw [List.take_of_length_le (by simp)]
theorem pre_lt {r : Nat} (s : ByteArray) (i : Nat) (h : r < 4294967296) : pre r s i < 4294967296 := more_lt _ h
def moreF (n : Int) (s : ByteArray) : Int := if 0 ≤ n ∧ n ≤ 4294967295 then ((more n.toNat s.data.toList : Nat) : Int) else 0
theorem moreF_no {n : Int} (s : ByteArray) (h : n < 0 ∨ 4294967295 < n) : moreF n s = 0 := by unfold moreF; rw [if_neg (by omega)]
theorem moreF_nat (r : Nat) (s : ByteArray) (h : r < 4294967296) : moreF r s = ((more r s.data.toList : Nat) : Int) := by
  unfold moreF
  rw [if_pos (by omega), Int.toNat_natCast]
def sumF (s : ByteArray) : Int := ((sum s.data.toList : Nat) : Int)
theorem sumF_bd (s : ByteArray) : 0 ≤ sumF s ∧ sumF s ≤ 4294967295 := by
  have := sum_lt s.data.toList
  unfold sumF
  omega
theorem sumF_eq (s : ByteArray) : bits .xor .i64 (moreF 4294967295 s) 4294967295 = sumF s := by
  have h := moreF_nat 4294967295 s (by decide)
  have h2 : moreF 4294967295 s = ((more 4294967295 s.data.toList : Nat) : Int) := h
  rw [h2]
  exact xor_int _ 4294967295 (more_lt _ (by decide)) (by decide)

/-! Sealed texts. -/
noncomputable def sealB (s : ByteArray) : ByteArray := s ++ fixed.fixF (sumF s) 4
theorem fix_sum (s : ByteArray) : fixed.fixF (sumF s) 4 = ⟨(fixed.fixL (sum s.data.toList) 4).toArray⟩ := by
  unfold sumF
  exact fixed.fix_yes (w := 4) (by decide) (by decide) (by have := sum_lt s.data.toList; show _ < 4294967296; exact this)
theorem fix_sum_size (s : ByteArray) : (fixed.fixF (sumF s) 4).size = 4 := by
  rw [fix_sum]
  show (fixed.fixL _ 4).toArray.size = 4
  rw [List.size_toArray, fixed.fixL_length]
theorem sealB_list (s : ByteArray) : (sealB s).data.toList = seal_ s.data.toList := by
  unfold sealB seal_
  rw [fix_sum]
  simp
theorem sealB_size (s : ByteArray) : (sealB s).size = s.size + 4 := by
  unfold sealB
  rw [ByteArray.size_append, fix_sum_size]
noncomputable def sealF (s : ByteArray) : ByteArray × Bool := if s.size ≤ 20000 then (sealB s, true) else (⟨#[]⟩, false)
theorem seal_yes {s : ByteArray} (h : s.size ≤ 20000) : sealF s = (sealB s, true) := by unfold sealF; rw [if_pos h]
theorem seal_no {s : ByteArray} (h : ¬ s.size ≤ 20000) : sealF s = (⟨#[]⟩, false) := by unfold sealF; rw [if_neg h]
theorem bytes_ext {a b : ByteArray} (h : a.data.toList = b.data.toList) : a = b := by
  apply ByteArray.ext
  exact Array.ext' h
theorem list_eq (s : ByteArray) : s.toList = s.data.toList := ByteArray.toList_eq s
open Classical in
noncomputable def unF (s : ByteArray) : ByteArray × Bool := if 4 ≤ s.size ∧ s.size - 4 ≤ 20000 ∧ sealB (s.extract 0 (s.size - 4)) = s then (s.extract 0 (s.size - 4), true) else (⟨#[]⟩, false)
theorem un_no {s : ByteArray} (h : ¬ (4 ≤ s.size ∧ s.size - 4 ≤ 20000 ∧ sealB (s.extract 0 (s.size - 4)) = s)) : unF s = (⟨#[]⟩, false) := by unfold unF; rw [if_neg h]
theorem un_yes {s : ByteArray} (h1 : 4 ≤ s.size) (h2 : s.size - 4 ≤ 20000) (h : sealB (s.extract 0 (s.size - 4)) = s) : unF s = (s.extract 0 (s.size - 4), true) := by unfold unF; rw [if_pos ⟨h1, h2, h⟩]
theorem cut_in_two (s : ByteArray) (n : Nat) (h : n ≤ s.size) : s.extract 0 n ++ s.extract n s.size = s := by
  apply bytes_ext
  simp
/-- The last four bytes tell. -/
theorem tail_iff (s : ByteArray) (h : 4 ≤ s.size) : s.extract (s.size - 4) s.size = fixed.fixF (sumF (s.extract 0 (s.size - 4))) 4 ↔ sealB (s.extract 0 (s.size - 4)) = s := by
  have hc := cut_in_two s (s.size - 4) (by omega)
  unfold sealB
  constructor
  · intro e
    rw [← e]
    exact hc
  · intro e
    have e2 := e.trans hc.symm
    have e3 := congrArg (fun x : ByteArray => x.data.toList) e2
    simp only [ByteArray.data_append, Array.toList_append] at e3
    exact bytes_ext (List.append_cancel_left e3).symm
theorem un_seal (s : ByteArray) (h : s.size ≤ 20000) : unF (sealB s) = (s, true) := by
  have hs := sealB_size s
  have e : (sealB s).extract 0 ((sealB s).size - 4) = s := by
    apply bytes_ext
    rw [hs, Nat.add_sub_cancel]
    unfold sealB
    have hl : s.data.toList.length = s.size := by simp
    simp [ByteArray.data_extract, List.extract_eq_take_drop]
    exact List.take_of_length_le (by omega)
  have h2 := un_yes (s := sealB s) (by omega) (by omega) (by rw [e])
  rw [e] at h2
  exact h2

/-! Inverted bits. -/
def flipF (s : ByteArray) (a b : Int) : ByteArray := if 0 ≤ a ∧ 0 ≤ b ∧ b ≤ 4294967295 then ⟨(flipL s.data.toList (2 ^ a.toNat * b.toNat)).toArray⟩ else s
theorem flipF_no {s : ByteArray} {a b : Int} (h : ¬ (0 ≤ a ∧ 0 ≤ b ∧ b ≤ 4294967295)) : flipF s a b = s := by unfold flipF; rw [if_neg h]
theorem flipF_nat (s : ByteArray) (p B : Nat) (h : B < 4294967296) : flipF s p B = ⟨(flipL s.data.toList (2 ^ p * B)).toArray⟩ := by
  unfold flipF
  rw [if_pos ⟨by omega, by omega, by omega⟩, Int.toNat_natCast, Int.toNat_natCast]
theorem flipF_far (s : ByteArray) (p B : Nat) (h : B < 4294967296) (hp : 8 * s.size ≤ p) : flipF s p B = s := by
  rw [flipF_nat s p B h, flip_far _ _ _ (by simpa using hp)]
/-- The bytes behind i bits. -/
def fl (s : ByteArray) (p B i : Nat) : List UInt8 := flipL s.data.toList (2 ^ p * (B % 2 ^ i))
theorem fl_length (s : ByteArray) (p B i : Nat) : (fl s p B i).length = s.size := by unfold fl; rw [flip_length]; simp
theorem fl_zero (s : ByteArray) (p B : Nat) : fl s p B 0 = s.data.toList := by
  unfold fl
  rw [show B % 2 ^ 0 = 0 from Nat.mod_one B, Nat.mul_zero, flip_zero]
theorem fl_no (s : ByteArray) (p B i : Nat) (h : B / 2 ^ i % 2 = 0) : fl s p B (i + 1) = fl s p B i := by unfold fl; rw [flip_bit_no B i h]
theorem fl_yes (s : ByteArray) (p B i : Nat) (h : B / 2 ^ i % 2 = 1) (hp : (p + i) / 8 < s.size) :
    fl s p B (i + 1) = (fl s p B i).set ((p + i) / 8) (UInt8.ofNat (((fl s p B i).getD ((p + i) / 8) 0).toNat ^^^ 2 ^ ((p + i) % 8))) := by
  unfold fl
  exact flip_bit_yes _ _ _ _ h (by simpa using hp)
theorem fl_far (s : ByteArray) (p B i : Nat) (h : 8 * s.size ≤ p + i) : fl s p B i = flipL s.data.toList (2 ^ p * B) := by
  unfold fl
  exact flip_done _ _ _ _ (by simpa using h)
theorem fl_stay (s : ByteArray) (p B i : Nat) (h : 8 * s.size ≤ p + i) : fl s p B (i + 1) = fl s p B i := by rw [fl_far s p B i h, fl_far s p B (i + 1) (by omega)]
theorem fl_end (s : ByteArray) (p B i : Nat) (hB : B < 4294967296) (h : i = 32 ∨ 8 * s.size ≤ p + i) : (⟨(fl s p B i).toArray⟩ : ByteArray) = flipF s p B := by
  rw [flipF_nat s p B hB]
  rcases h with rfl | h
  · unfold fl
    rw [flip_all _ _ _ hB]
  · rw [fl_far s p B i h]
theorem bit_lt (k : Nat) : 2 ^ (k % 8) < 256 := Nat.lt_of_lt_of_le (Nat.pow_lt_pow_right (by decide) (Nat.mod_lt k (by decide))) (Nat.le_refl _)
theorem shr_bit (B i : Nat) (hB : B < 4294967296) : bits .and .i64 ((B : Int) / 2 ^ i) 1 = ((B / 2 ^ i % 2 : Nat) : Int) := by
  have h1 : B / 2 ^ i ≤ B := Nat.div_le_self _ _
  have e := and1 (B / 2 ^ i) (by omega)
  rw [Int.natCast_ediv] at e
  have e2 : ((2 ^ i : Nat) : Int) = 2 ^ i := by simp
  rw [e2] at e
  exact e
/-! A sealed text that a burst has hit. -/
theorem flipF_size (s : ByteArray) (p B : Nat) (h : B < 4294967296) : (flipF s p B).size = s.size := by
  rw [flipF_nat s p B h]
  show (flipL _ _).toArray.size = _
  rw [List.size_toArray, flip_length]
  simp
theorem flipF_back (s : ByteArray) (p B : Nat) (h : B < 4294967296) : flipF (flipF s p B) p B = s := by
  rw [flipF_nat (flipF s p B) p B h, flipF_nat s p B h]
  apply bytes_ext
  show flipL (flipL _ _) _ = _
  rw [flip_flip]
theorem flipF_ne (s : ByteArray) (p B : Nat) (h : B < 4294967296) (hB : B % 2 = 1) (hp : p < 8 * s.size) : flipF s p B ≠ s := by
  rw [flipF_nat s p B h]
  intro e
  have e2 := congrArg (fun x : ByteArray => x.data.toList) e
  exact flip_ne _ p B (by simpa using hp) hB e2
theorem un_flip (t : ByteArray) (p B : Nat) (h : B < 4294967296) (hB : B % 2 = 1) (hp : p < 8 * (t.size + 4)) : (unF (flipF (sealB t) p B)) = (⟨#[]⟩, false) := by
  refine un_no fun hh => ?_
  have e := congrArg (fun x : ByteArray => x.data.toList) hh.2.2
  simp only [sealB_list] at e
  rw [flipF_nat _ p B h] at e
  have e2 : flipL (sealB t).data.toList (2 ^ p * B) = seal_ ((⟨(flipL (sealB t).data.toList (2 ^ p * B)).toArray⟩ : ByteArray).extract 0 ((⟨(flipL (sealB t).data.toList (2 ^ p * B)).toArray⟩ : ByteArray).size - 4)).data.toList := e.symm
  generalize ((⟨(flipL (sealB t).data.toList (2 ^ p * B)).toArray⟩ : ByteArray).extract 0 ((⟨(flipL (sealB t).data.toList (2 ^ p * B)).toArray⟩ : ByteArray).size - 4)).data.toList = u at e2
  rw [sealB_list] at e2
  exact burst_unsealed t.data.toList u p B (by simpa using hp) hB h e2
theorem sum_check : sumF ⟨#[49, 50, 51, 52, 53, 54, 55, 56, 57]⟩ = 3421780262 := by
  show ((sum [49, 50, 51, 52, 53, 54, 55, 56, 57] : Nat) : Int) = 3421780262
  have h : sum [49, 50, 51, 52, 53, 54, 55, 56, 57] = 3421780262 := by decide +kernel
  rw [h]; rfl
/-- The sum of a text by its two parts. -/
theorem more_parts (s : ByteArray) (n : Nat) (h : n ≤ s.size) : moreF (moreF 4294967295 (s.extract 0 n)) (s.extract n s.size) = moreF 4294967295 s := by
  have h1 : moreF 4294967295 (s.extract 0 n) = ((more 4294967295 (s.extract 0 n).data.toList : Nat) : Int) := moreF_nat 4294967295 _ (by decide)
  have h2 : moreF 4294967295 s = ((more 4294967295 s.data.toList : Nat) : Int) := moreF_nat 4294967295 _ (by decide)
  rw [h1, moreF_nat _ _ (more_lt _ (by decide)), h2, ← more_append]
  have e := congrArg (fun x : ByteArray => x.data.toList) (cut_in_two s n h)
  simp only [ByteArray.data_append, Array.toList_append] at e
  rw [e]
theorem sum_more (s : ByteArray) : bits .xor .i64 (sumF s) 4294967295 = moreF 4294967295 s := by
  have h2 : moreF 4294967295 s = ((more 4294967295 s.data.toList : Nat) : Int) := moreF_nat 4294967295 _ (by decide)
  have h3 := xor_int (sum s.data.toList) 4294967295 (sum_lt _) (by decide)
  unfold sumF
  refine h3.trans ?_
  rw [h2]
  unfold sum
  rw [Nat.xor_assoc, Nat.xor_self, Nat.xor_zero]
end Go.Proofs.YtljahpngngmecaaDoor.crc
