/- Plain mathematics of UTF-8: one number's bytes, what begins at a place, a text cut into numbers. -/
import Derived.Test.YtangdmjdjiddcaaDoorGA0
import GoSem.Core.Utf8
namespace Go.Proofs.YtangdmjdjiddcaaDoor.rune
open Go Go.RowKit
set_option linter.unusedVariables false

def valid (n : Nat) : Prop := n < 55296 ∨ (57344 ≤ n ∧ n ≤ 1114111)
instance (n : Nat) : Decidable (valid n) := by unfold valid; exact inferInstance
/-- The bytes of a number. -/
def enc (n : Nat) : List Nat :=
  if n < 128 then [n]
  else if n < 2048 then [192 + n / 64, 128 + n % 64]
  else if n < 65536 then [224 + n / 4096, 128 + n / 64 % 64, 128 + n % 64]
  else [240 + n / 262144, 128 + n / 4096 % 64, 128 + n / 64 % 64, 128 + n % 64]
theorem enc1 {n : Nat} (h : n < 128) : enc n = [n] := by unfold enc; rw [if_pos h]
theorem enc2 {n : Nat} (h1 : 128 ≤ n) (h : n < 2048) : enc n = [192 + n / 64, 128 + n % 64] := by unfold enc; rw [if_neg (by omega), if_pos h]
theorem enc3 {n : Nat} (h1 : 2048 ≤ n) (h : n < 65536) : enc n = [224 + n / 4096, 128 + n / 64 % 64, 128 + n % 64] := by unfold enc; rw [if_neg (by omega), if_neg (by omega), if_pos h]
theorem enc4 {n : Nat} (h1 : 65536 ≤ n) : enc n = [240 + n / 262144, 128 + n / 4096 % 64, 128 + n / 64 % 64, 128 + n % 64] := by unfold enc; rw [if_neg (by omega), if_neg (by omega), if_neg (by omega)]
theorem enc_pos (n : Nat) : 0 < (enc n).length := by
  unfold enc
  (repeat' split) <;> simp
theorem enc_le (n : Nat) : (enc n).length ≤ 4 := by
  unfold enc
  (repeat' split) <;> simp
theorem enc_lt {n : Nat} (h : valid n) : ∀ b ∈ enc n, b < 256 := by
  unfold valid at h
  unfold enc
  repeat' split
  all_goals
    intro b hb
    simp at hb
    omega

/-- The number n is told at place p. -/
def Is (s : ByteArray) (p n : Nat) : Prop := valid n ∧ p + (enc n).length ≤ s.size ∧ ∀ i, i < (enc n).length → at_ s (p + i) = (((enc n).getD i 0 : Nat) : Int)
/-- One place, one number. -/
theorem is_cases {s : ByteArray} {p n : Nat} (h : Is s p n) :
    (n < 128 ∧ p + 1 ≤ s.size ∧ at_ s p = (n : Int)) ∨
    (128 ≤ n ∧ n < 2048 ∧ p + 2 ≤ s.size ∧ at_ s p = ((192 + n / 64 : Nat) : Int) ∧ at_ s (p + 1) = ((128 + n % 64 : Nat) : Int)) ∨
    (2048 ≤ n ∧ n < 65536 ∧ p + 3 ≤ s.size ∧ at_ s p = ((224 + n / 4096 : Nat) : Int) ∧ at_ s (p + 1) = ((128 + n / 64 % 64 : Nat) : Int) ∧ at_ s (p + 2) = ((128 + n % 64 : Nat) : Int)) ∨
    (65536 ≤ n ∧ n ≤ 1114111 ∧ p + 4 ≤ s.size ∧ at_ s p = ((240 + n / 262144 : Nat) : Int) ∧ at_ s (p + 1) = ((128 + n / 4096 % 64 : Nat) : Int) ∧ at_ s (p + 2) = ((128 + n / 64 % 64 : Nat) : Int) ∧ at_ s (p + 3) = ((128 + n % 64 : Nat) : Int)) := by
  obtain ⟨hv, hl, hb⟩ := h
  by_cases h1 : n < 128
  · rw [enc1 h1] at hl hb
    exact .inl ⟨h1, hl, hb 0 (by simp)⟩
  by_cases h2 : n < 2048
  · rw [enc2 (by omega) h2] at hl hb
    exact .inr (.inl ⟨by omega, h2, hl, hb 0 (by simp), hb 1 (by simp)⟩)
  by_cases h3 : n < 65536
  · rw [enc3 (by omega) h3] at hl hb
    exact .inr (.inr (.inl ⟨by omega, h3, hl, hb 0 (by simp), hb 1 (by simp), hb 2 (by simp)⟩))
  · rw [enc4 (by omega)] at hl hb
    exact .inr (.inr (.inr ⟨by omega, by unfold valid at hv; omega, hl, hb 0 (by simp), hb 1 (by simp), hb 2 (by simp), hb 3 (by simp)⟩))
theorem is_one {s : ByteArray} {p n m : Nat} (h : Is s p n) (k : Is s p m) : n = m := by
  rcases is_cases h with h | h | h | h <;> rcases is_cases k with k | k | k | k <;> omega
/-- What lies at a place, put together again. -/
theorem is_of1 {s : ByteArray} {p n : Nat} (h1 : n < 128) (hl : p + 1 ≤ s.size) (h : at_ s p = (n : Int)) : Is s p n := by
  refine ⟨.inl (by omega), by rw [enc1 h1]; exact hl, fun i hi => ?_⟩
  rw [enc1 h1] at hi ⊢
  obtain rfl : i = 0 := by simpa using hi
  exact h
theorem is_of2 {s : ByteArray} {p n : Nat} (h1 : 128 ≤ n) (h2 : n < 2048) (hl : p + 2 ≤ s.size) (h : at_ s p = ((192 + n / 64 : Nat) : Int)) (h' : at_ s (p + 1) = ((128 + n % 64 : Nat) : Int)) : Is s p n := by
  refine ⟨.inl (by omega), by rw [enc2 h1 h2]; exact hl, fun i hi => ?_⟩
  rw [enc2 h1 h2] at hi ⊢
  match i, hi with
  | 0, _ => exact h
  | 1, _ => exact h'
theorem is_of3 {s : ByteArray} {p n : Nat} (hv : valid n) (h1 : 2048 ≤ n) (h2 : n < 65536) (hl : p + 3 ≤ s.size) (h : at_ s p = ((224 + n / 4096 : Nat) : Int)) (h' : at_ s (p + 1) = ((128 + n / 64 % 64 : Nat) : Int)) (h'' : at_ s (p + 2) = ((128 + n % 64 : Nat) : Int)) : Is s p n := by
  refine ⟨hv, by rw [enc3 h1 h2]; exact hl, fun i hi => ?_⟩
  rw [enc3 h1 h2] at hi ⊢
  match i, hi with
  | 0, _ => exact h
  | 1, _ => exact h'
  | 2, _ => exact h''
theorem is_of4 {s : ByteArray} {p n : Nat} (hv : valid n) (h1 : 65536 ≤ n) (hl : p + 4 ≤ s.size) (h : at_ s p = ((240 + n / 262144 : Nat) : Int)) (h' : at_ s (p + 1) = ((128 + n / 4096 % 64 : Nat) : Int)) (h'' : at_ s (p + 2) = ((128 + n / 64 % 64 : Nat) : Int)) (h3 : at_ s (p + 3) = ((128 + n % 64 : Nat) : Int)) : Is s p n := by
  refine ⟨hv, by rw [enc4 h1]; exact hl, fun i hi => ?_⟩
  rw [enc4 h1] at hi ⊢
  match i, hi with
  | 0, _ => exact h
  | 1, _ => exact h'
  | 2, _ => exact h''
  | 3, _ => exact h3

/-! The model's own decoding (a range over a string) beside it. -/
theorem get_at (s : ByteArray) (i : Nat) : ((s.get! i).toNat : Int) = at_ s i := by
  obtain ⟨d⟩ := s
  show ((d[i]!).toNat : Int) = ((d.toList.getD i 0).toNat : Int)
  rw [List.getD_eq_getElem?_getD, Array.getElem?_toList]
  by_cases h : i < d.size
  · rw [getElem!_pos d i h, Array.getElem?_eq_getElem h]; rfl
  · rw [getElem!_neg d i h, Array.getElem?_eq_none (by omega)]; rfl
/-- The model's decoding over four bytes and how many of them there are. -/
def dec4 (b0 b1 b2 b3 : Nat) (c1 c2 c3 : Bool) : Nat × Nat :=
  if b0 < 0x80 then (b0, 1)
  else if b0 / 32 == 6 && c1 then
    if b0 % 32 * 64 + b1 % 64 ≥ 0x80 then (b0 % 32 * 64 + b1 % 64, 2) else (65533, 1)
  else if b0 / 16 == 14 && c1 && c2 then
    if b0 % 16 * 4096 + b1 % 64 * 64 + b2 % 64 ≥ 0x800 && Utf8.valid ((b0 % 16 * 4096 + b1 % 64 * 64 + b2 % 64 : Nat) : Int) then (b0 % 16 * 4096 + b1 % 64 * 64 + b2 % 64, 3) else (65533, 1)
  else if b0 / 8 == 30 && c1 && c2 && c3 then
    if b0 % 8 * 262144 + b1 % 64 * 4096 + b2 % 64 * 64 + b3 % 64 ≥ 0x10000 && Utf8.valid ((b0 % 8 * 262144 + b1 % 64 * 4096 + b2 % 64 * 64 + b3 % 64 : Nat) : Int) then (b0 % 8 * 262144 + b1 % 64 * 4096 + b2 % 64 * 64 + b3 % 64, 4) else (65533, 1)
  else (65533, 1)
theorem decode_four (s : ByteArray) (p : Nat) : Utf8.decode s p = dec4 (s.get! p).toNat (s.get! (p + 1)).toNat (s.get! (p + 2)).toNat (s.get! (p + 3)).toNat
    (decide (p + 1 < s.size) && (s.get! (p + 1)).toNat / 64 == 2) (decide (p + 2 < s.size) && (s.get! (p + 2)).toNat / 64 == 2) (decide (p + 3 < s.size) && (s.get! (p + 3)).toNat / 64 == 2) := rfl
/-- Either a number is told at p, and the decoding finds it; or none is, and the decoding says 65533 in one byte. -/
theorem decode_is (s : ByteArray) (p : Nat) (hp : p < s.size) :
    (Is s p (Utf8.decode s p).1 ∧ (Utf8.decode s p).2 = (enc (Utf8.decode s p).1).length) ∨
    ((Utf8.decode s p) = (65533, 1) ∧ ∀ n, ¬ Is s p n) := by
  rw [decode_four]
  have g0 := get_at s p
  have g1 := get_at s (p + 1)
  have g2 := get_at s (p + 2)
  have g3 := get_at s (p + 3)
  have d0 := at_bd s p
  have d1 := at_bd s (p + 1)
  have d2 := at_bd s (p + 2)
  have d3 := at_bd s (p + 3)
  generalize (s.get! p).toNat = b0 at g0 ⊢
  generalize (s.get! (p + 1)).toNat = b1 at g1 ⊢
  generalize (s.get! (p + 2)).toNat = b2 at g2 ⊢
  generalize (s.get! (p + 3)).toNat = b3 at g3 ⊢
  unfold dec4
  by_cases h1 : b0 < 128
  · rw [if_pos h1]
    exact .inl ⟨is_of1 h1 (by omega) (by omega), by rw [enc1 h1]; rfl⟩
  rw [if_neg h1]
  by_cases h2 : (b0 / 32 == 6 && (decide (p + 1 < s.size) && b1 / 64 == 2)) = true
  · rw [if_pos h2]
    simp at h2
    by_cases h3 : b0 % 32 * 64 + b1 % 64 ≥ 128
    · rw [if_pos h3]
      refine .inl ⟨is_of2 h3 (by omega) (by omega) (by omega) (by omega), ?_⟩
      rw [enc2 h3 (by omega)]; rfl
    · rw [if_neg h3]
      refine .inr ⟨rfl, fun n hn => ?_⟩
      rcases is_cases hn with h | h | h | h <;> omega
  rw [if_neg h2]
  by_cases h4 : (b0 / 16 == 14 && (decide (p + 1 < s.size) && b1 / 64 == 2) && (decide (p + 2 < s.size) && b2 / 64 == 2)) = true
  · rw [if_pos h4]
    simp at h4
    by_cases h3 : (decide (b0 % 16 * 4096 + b1 % 64 * 64 + b2 % 64 ≥ 2048) && Utf8.valid ((b0 % 16 * 4096 + b1 % 64 * 64 + b2 % 64 : Nat) : Int)) = true
    · rw [if_pos (by simpa using h3)]
      simp [Utf8.valid] at h3
      have hv : valid (b0 % 16 * 4096 + b1 % 64 * 64 + b2 % 64) := by unfold valid; omega
      refine .inl ⟨is_of3 hv h3.1 (by omega) (by omega) (by omega) (by omega) (by omega), ?_⟩
      rw [enc3 h3.1 (by omega)]; rfl
    · rw [if_neg (by simpa using h3)]
      simp [Utf8.valid] at h3
      refine .inr ⟨rfl, fun n hn => ?_⟩
      have hv := hn.1
      unfold valid at hv
      rcases is_cases hn with h | h | h | h
      · omega
      · omega
      · have e : n = b0 % 16 * 4096 + b1 % 64 * 64 + b2 % 64 := by omega
        rw [← e] at h3
        omega
      · omega
  rw [if_neg h4]
  by_cases h5 : (b0 / 8 == 30 && (decide (p + 1 < s.size) && b1 / 64 == 2) && (decide (p + 2 < s.size) && b2 / 64 == 2) && (decide (p + 3 < s.size) && b3 / 64 == 2)) = true
  · rw [if_pos h5]
    simp at h5
    by_cases h3 : (decide (b0 % 8 * 262144 + b1 % 64 * 4096 + b2 % 64 * 64 + b3 % 64 ≥ 65536) && Utf8.valid ((b0 % 8 * 262144 + b1 % 64 * 4096 + b2 % 64 * 64 + b3 % 64 : Nat) : Int)) = true
    · rw [if_pos (by simpa using h3)]
      simp [Utf8.valid] at h3
      have hv : valid (b0 % 8 * 262144 + b1 % 64 * 4096 + b2 % 64 * 64 + b3 % 64) := by unfold valid; omega
      refine .inl ⟨is_of4 hv h3.1 (by omega) (by omega) (by omega) (by omega) (by omega), ?_⟩
      rw [enc4 h3.1]; rfl
    · rw [if_neg (by simpa using h3)]
      simp [Utf8.valid] at h3
      refine .inr ⟨rfl, fun n hn => ?_⟩
      have hv := hn.1
      unfold valid at hv
      rcases is_cases hn with h | h | h | h
      · omega
      · omega
      · omega
      · have e : n = b0 % 8 * 262144 + b1 % 64 * 4096 + b2 % 64 * 64 + b3 % 64 := by omega
        rw [← e] at h3
        omega
  rw [if_neg h5]
  simp at h2 h4 h5
  refine .inr ⟨rfl, fun n hn => ?_⟩
  rcases is_cases hn with h | h | h | h
  · omega
  · exact absurd (by omega : b1 / 64 = 2) (h2 (by omega) (by omega))
  · exact absurd (by omega : b2 / 64 = 2) (h4 (by omega) (by omega) (by omega) (by omega))
  · exact absurd (by omega : b3 / 64 = 2) (h5 (by omega) (by omega) (by omega) (by omega) (by omega) (by omega))

/-! RuneOk, RuneText. -/
def okR (n : Int) : Bool := (decide (0 ≤ n) && decide (n ≤ 1114111)) && !(decide (55296 ≤ n) && decide (n ≤ 57343))
theorem okR_iff (n : Int) : okR n = true ↔ 0 ≤ n ∧ n ≤ 1114111 ∧ ¬ (55296 ≤ n ∧ n ≤ 57343) := by
  unfold okR
  simp
  omega
theorem okR_nat (n : Nat) : okR (n : Int) = true ↔ valid n := by rw [okR_iff]; unfold valid; omega
theorem okR_no {n : Int} (h : ¬ (0 ≤ n ∧ n ≤ 1114111 ∧ ¬ (55296 ≤ n ∧ n ≤ 57343))) : okR n = false := by
  cases e : okR n with
  | false => rfl
  | true => exact absurd ((okR_iff n).1 e) h
def encB (n : Nat) : List UInt8 := (enc n).map UInt8.ofNat
theorem encB_length (n : Nat) : (encB n).length = (enc n).length := by simp [encB]
def textF (n : Int) : ByteArray := if okR n = true then ⟨(encB n.toNat).toArray⟩ else ⟨#[]⟩
theorem text_yes {n : Nat} (h : valid n) : textF (n : Int) = ⟨(encB n).toArray⟩ := by
  unfold textF
  rw [if_pos ((okR_nat n).2 h)]
  rfl
theorem text_no {n : Int} (h : okR n = false) : textF n = ⟨#[]⟩ := by unfold textF; rw [if_neg (by rw [h]; decide)]
theorem text_size {n : Nat} (h : valid n) : (textF (n : Int)).size = (enc n).length := by
  rw [text_yes h]
  show (encB n).toArray.size = _
  simp [encB]
theorem text_le (n : Int) : (textF n).size ≤ 4 := by
  cases h : okR n with
  | false => rw [text_no h]; decide
  | true =>
    obtain ⟨m, rfl⟩ := Int.eq_ofNat_of_zero_le ((okR_iff n).1 h).1
    rw [text_size ((okR_nat m).1 h)]
    exact enc_le m
theorem text_pos {n : Int} : 0 < (textF n).size ↔ okR n = true := by
  cases h : okR n with
  | false => rw [text_no h]; decide
  | true =>
    obtain ⟨m, rfl⟩ := Int.eq_ofNat_of_zero_le ((okR_iff n).1 h).1
    rw [text_size ((okR_nat m).1 h)]
    exact ⟨fun _ => rfl, fun _ => enc_pos m⟩
/-- What is told at a place is the number's text. -/
theorem is_extract {s : ByteArray} {p n : Nat} (hl : p + (enc n).length ≤ s.size) (hv : valid n) : Is s p n ↔ s.extract p (p + (enc n).length) = textF (n : Int) := by
  have hlt := enc_lt hv
  rw [text_yes hv]
  constructor
  · intro h
    apply ByteArray.ext
    apply Array.ext'
    rw [ByteArray.data_extract, Array.toList_extract, List.extract_eq_take_drop, Nat.add_sub_cancel_left]
    apply List.ext_getElem
    · simp [encB]
      have : s.size = s.data.size := rfl
      omega
    · intro i h1 h2
      have hi : i < (enc n).length := by simpa [encB] using h2
      have h3 := h.2.2 i hi
      unfold at_ at h3
      rw [List.getD_eq_getElem?_getD] at h3
      have hs : p + i < s.data.toList.length := by simp; have : s.size = s.data.size := rfl; omega
      rw [List.getElem?_eq_getElem hs, Option.getD_some] at h3
      rw [List.getElem_take, List.getElem_drop]
      rw [List.getD_eq_getElem?_getD, List.getElem?_eq_getElem hi, Option.getD_some] at h3
      apply UInt8.toNat.inj
      have h4 := hlt _ (List.getElem_mem hi)
      have h5 : ((encB n).toArray.toList[i]'h2).toNat = (enc n)[i] := by
        simp [encB]
        omega
      show (s.data.toList[p + i]).toNat = ((encB n).toArray.toList[i]'h2).toNat
      omega
  · intro h
    refine ⟨hv, hl, fun i hi => ?_⟩
    have h1 := congrArg (fun x : ByteArray => x.data.toList[i]?) h
    simp only [ByteArray.data_extract, Array.toList_extract, List.extract_eq_take_drop] at h1
    rw [List.getElem?_take_of_lt (by omega), List.getElem?_drop] at h1
    have h2 : (encB n).toArray.toList[i]? = some (UInt8.ofNat (enc n)[i]) := by simp [encB, hi]
    rw [h2] at h1
    unfold at_
    rw [List.getD_eq_getElem?_getD, h1, List.getD_eq_getElem?_getD, List.getElem?_eq_getElem hi]
    have h4 := hlt _ (List.getElem_mem hi)
    simp
    omega

/-! RuneAt. -/
open Classical in
noncomputable def atF (s : ByteArray) (a : Int) : Int × Int := if h : 0 ≤ a ∧ ∃ n, Is s a.toNat n then ((h.2.choose : Int), a + ((enc h.2.choose).length : Int)) else (0, -1)
theorem at_yes {s : ByteArray} {p n : Nat} (h : Is s p n) : atF s (p : Int) = ((n : Int), ((p + (enc n).length : Nat) : Int)) := by
  have hh : 0 ≤ (p : Int) ∧ ∃ n, Is s (p : Int).toNat n := ⟨by omega, n, by simpa using h⟩
  unfold atF
  rw [dif_pos hh]
  have e : hh.2.choose = n := is_one (by simpa using hh.2.choose_spec) h
  rw [e]
  simp
theorem at_no {s : ByteArray} {a : Int} (h : ¬ (0 ≤ a ∧ ∃ n, Is s a.toNat n)) : atF s a = (0, -1) := by unfold atF; rw [dif_neg h]
theorem at_none {s : ByteArray} {p : Nat} (h : ∀ n, ¬ Is s p n) : atF s (p : Int) = (0, -1) := at_no (by rintro ⟨_, n, hn⟩; exact h n (by simpa using hn))
theorem at_out {s : ByteArray} {a : Int} (h : ¬ (0 ≤ a ∧ a < s.size)) : atF s a = (0, -1) := by
  refine at_no ?_
  rintro ⟨h0, n, hn⟩
  have := hn.2.1
  have := enc_pos n
  omega
/-- By the model's decoding. -/
theorem at_decode (s : ByteArray) (p : Nat) (hp : p < s.size) : (Utf8.decode s p = (65533, 1) ∧ atF s (p : Int) = (0, -1)) ∨ (atF s (p : Int) = (((Utf8.decode s p).1 : Int), ((p + (Utf8.decode s p).2 : Nat) : Int)) ∧ Utf8.decode s p ≠ (65533, 1) ∧ Is s p (Utf8.decode s p).1) := by
  rcases decode_is s p hp with ⟨h, e⟩ | ⟨e, h⟩
  · refine .inr ⟨by rw [at_yes h, e], fun e2 => ?_, h⟩
    rw [e2] at e
    exact absurd e (by decide)
  · exact .inl ⟨e, at_none h⟩

/-! RunesOf, RunesText. -/
/-- The text from place p on, cut into numbers (b: a bound on their number). -/
noncomputable def cut (s : ByteArray) : Nat → Nat → Option (List Int)
  | 0, p => if p < s.size then none else some []
  | b + 1, p => if p < s.size then (if (atF s (p : Int)).2 < 0 then none else (cut s b (atF s (p : Int)).2.toNat).map ((atF s (p : Int)).1 :: ·)) else some []
theorem at_next {s : ByteArray} {p : Nat} (h : ¬ (atF s (p : Int)).2 < 0) : ∃ n, Is s p n ∧ atF s (p : Int) = ((n : Int), ((p + (enc n).length : Nat) : Int)) := by
  by_cases hh : ∃ n, Is s p n
  · obtain ⟨n, hn⟩ := hh
    exact ⟨n, hn, at_yes hn⟩
  · rw [at_none (fun n hn => hh ⟨n, hn⟩)] at h
    exact absurd (by decide) h
theorem cut_end {s : ByteArray} {b p : Nat} (h : s.size ≤ p) : cut s b p = some [] := by
  cases b <;> simp [cut, Nat.not_lt.2 h]
theorem cut_none {s : ByteArray} {b p : Nat} (hp : p < s.size) (h : (atF s (p : Int)).2 < 0) : cut s b p = none := by
  cases b <;> simp [cut, hp, h]
theorem cut_step {s : ByteArray} {b p n : Nat} (h : Is s p n) : cut s (b + 1) p = (cut s b (p + (enc n).length)).map ((n : Int) :: ·) := by
  have hp : p < s.size := by have := h.2.1; have := enc_pos n; omega
  simp only [cut, if_pos hp, at_yes h]
  rw [if_neg (by omega), Int.toNat_natCast]
theorem cut_enough {s : ByteArray} : ∀ {b c p : Nat}, s.size ≤ p + b → s.size ≤ p + c → cut s b p = cut s c p := by
  intro b
  induction b with
  | zero => intro c p h1 h2; rw [cut_end (by omega), cut_end (by omega)]
  | succ b ih =>
    intro c p h1 h2
    by_cases hp : p < s.size
    · by_cases hn : (atF s (p : Int)).2 < 0
      · rw [cut_none hp hn, cut_none hp hn]
      · obtain ⟨n, h, e⟩ := at_next hn
        cases c with
        | zero => omega
        | succ c =>
          have := enc_pos n
          rw [cut_step h, cut_step h, ih (c := c) (by omega) (by omega)]
    · rw [cut_end (by omega), cut_end (by omega)]
noncomputable def runesF (s : ByteArray) : Option (List Int) := cut s s.size 0
def joinL (l : List Int) : List UInt8 := l.flatMap fun n => (textF n).data.toList
def joinF (l : List Int) : ByteArray := ⟨(joinL l).toArray⟩
theorem joinL_snoc (l : List Int) (n : Int) : joinL (l ++ [n]) = joinL l ++ (textF n).data.toList := by simp [joinL]
theorem joinL_cons (n : Int) (l : List Int) : joinL (n :: l) = (textF n).data.toList ++ joinL l := by simp [joinL]
theorem joinF_size (l : List Int) : (joinF l).size = (joinL l).length := by show (joinL l).toArray.size = _; simp
theorem joinL_le (l : List Int) : (joinL l).length ≤ 4 * l.length := by
  induction l with
  | nil => simp [joinL]
  | cons a l ih =>
    rw [joinL_cons, List.length_append, List.length_cons]
    have h := text_le a
    have h2 : (textF a).data.toList.length = (textF a).size := by simp
    omega
/-- What was cut tells the text. -/
theorem cut_join {s : ByteArray} : ∀ {b p : Nat} {l : List Int}, cut s b p = some l → s.data.toList.drop p = joinL l := by
  intro b
  have hs : s.data.toList.length = s.size := by simp
  induction b with
  | zero =>
    intro p l h
    by_cases hp : p < s.size
    · simp [cut, hp] at h
    · rw [cut_end (by omega)] at h
      cases h
      rw [List.drop_eq_nil_of_le (by omega)]
      rfl
  | succ b ih =>
    intro p l h
    by_cases hp : p < s.size
    · by_cases hn : (atF s (p : Int)).2 < 0
      · rw [cut_none hp hn] at h
        cases h
      · obtain ⟨n, hi, e⟩ := at_next hn
        rw [cut_step hi] at h
        cases hc : cut s b (p + (enc n).length) with
        | none => rw [hc] at h; cases h
        | some r =>
          rw [hc] at h
          cases h
          have h1 := ih hc
          have h2 := (is_extract hi.2.1 hi.1).1 hi
          have h3 := congrArg (fun x : ByteArray => x.data.toList) h2
          simp only [ByteArray.data_extract, Array.toList_extract, List.extract_eq_take_drop] at h3
          rw [joinL_cons, ← h1, ← h3, Nat.add_sub_cancel_left, ← List.drop_drop, List.take_append_drop]
    · rw [cut_end (by omega)] at h
      cases h
      rw [List.drop_eq_nil_of_le (by omega)]
      rfl
theorem runes_join {s : ByteArray} {l : List Int} (h : runesF s = some l) : joinF l = s := by
  have h1 := cut_join h
  rw [List.drop_zero] at h1
  unfold joinF
  rw [← h1]
/-- And the text of numbers is cut into those of them that are right. -/
theorem cut_text (s : ByteArray) : ∀ (l : List Int) (p : Nat), s.data.toList.drop p = joinL l → p ≤ s.size → cut s (s.size - p) p = some (l.filter (fun n => okR n))
  | [], p, h, hp => by
    have hs : s.data.toList.length = s.size := by simp
    have : s.data.toList.length ≤ p := by
      rcases Nat.lt_or_ge p s.data.toList.length with h2 | h2
      · have h3 : (s.data.toList.drop p).length = s.data.toList.length - p := List.length_drop
        rw [h] at h3
        simp [joinL] at h3
        omega
      · exact h2
    rw [cut_end (by omega)]
    rfl
  | n :: l, p, h, hp => by
    have hs : s.data.toList.length = s.size := by simp
    rw [joinL_cons] at h
    cases ho : okR n with
    | false =>
      rw [text_no ho] at h
      rw [List.filter_cons_of_neg (by rw [ho]; decide)]
      exact cut_text s l p (by simpa using h) hp
    | true =>
      obtain ⟨m, rfl⟩ := Int.eq_ofNat_of_zero_le ((okR_iff n).1 ho).1
      have hv := (okR_nat m).1 ho
      rw [List.filter_cons_of_pos ho]
      have hz := text_size hv
      have hz2 : (textF (m : Int)).data.toList.length = (textF (m : Int)).size := by simp
      have hlen : (s.data.toList.drop p).length = s.size - p := by rw [List.length_drop, hs]
      rw [h, List.length_append] at hlen
      have hpos := enc_pos m
      have hi : Is s p m := by
        refine (is_extract (by omega) hv).2 ?_
        apply ByteArray.ext
        apply Array.ext'
        rw [ByteArray.data_extract, Array.toList_extract, List.extract_eq_take_drop, Nat.add_sub_cancel_left, h, List.take_left' (by omega)]
      obtain ⟨c, hc⟩ : ∃ c, s.size - p = c + 1 := ⟨s.size - p - 1, by omega⟩
      rw [hc, cut_step hi]
      have h2 : s.data.toList.drop (p + (enc m).length) = joinL l := by
        rw [← List.drop_drop, h, List.drop_left' (by omega)]
      rw [cut_enough (c := s.size - (p + (enc m).length)) (by omega) (by omega), cut_text s l (p + (enc m).length) h2 (by omega)]
      rfl
theorem runes_text (l : List Int) : runesF (joinF l) = some (l.filter (fun n => okR n)) := by
  have h := cut_text (joinF l) l 0 (by simp [joinF]) (Nat.zero_le _)
  rw [Nat.sub_zero] at h
  exact h
theorem join_filter (l : List Int) : joinF (l.filter (fun n => okR n)) = joinF l := runes_join (runes_text l)
/-! The model's own encoding (string of a rune), and its decoding from the head of what lies behind a place. -/
theorem encode_text {n : Int} (h : okR n = true) : Utf8.encode n = textF n := by
  obtain ⟨h0, h1, h2⟩ := (okR_iff n).1 h
  obtain ⟨m, rfl⟩ := Int.eq_ofNat_of_zero_le h0
  have hv : Utf8.valid (m : Int) = true := by
    simp [Utf8.valid]
    omega
  rw [text_yes ((okR_nat m).1 h)]
  unfold Utf8.encode
  simp only [hv, if_true, Int.toNat_natCast]
  unfold encB enc
  repeat' split
  all_goals rfl
theorem get_extract (s : ByteArray) (p k : Nat) (h : p + k < s.size) : (s.extract p s.size).get! k = s.get! (p + k) := by
  obtain ⟨d⟩ := s
  have hs : p + k < d.size := h
  show ((⟨d⟩ : ByteArray).extract p d.size).data[k]! = d[p + k]!
  rw [ByteArray.data_extract, getElem!_pos d (p + k) hs, getElem!_pos _ k (by simp; omega)]
  simp
theorem get_far (s : ByteArray) (k : Nat) (h : s.size ≤ k) : s.get! k = 0 := by
  obtain ⟨d⟩ := s
  show d[k]! = 0
  rw [getElem!_neg d k (by have : d.size ≤ k := h; omega)]
  rfl
theorem get_behind (s : ByteArray) (p k : Nat) (hp : p ≤ s.size) : (s.extract p s.size).get! k = s.get! (p + k) := by
  rcases Nat.lt_or_ge (p + k) s.size with h | h
  · exact get_extract s p k h
  · rw [get_far s _ h, get_far]
    rw [ByteArray.size_extract]
    omega
theorem decode_behind (s : ByteArray) (p : Nat) (hp : p ≤ s.size) : Utf8.decode (s.extract p s.size) 0 = Utf8.decode s p := by
  have hz : (s.extract p s.size).size = s.size - p := by rw [ByteArray.size_extract]; omega
  rw [decode_four, decode_four, get_behind s p _ hp, get_behind s p _ hp, get_behind s p _ hp, get_behind s p _ hp, hz]
  have e : ∀ k, decide (0 + k < s.size - p) = decide (p + k < s.size) := fun k => by
    by_cases h : 0 + k < s.size - p
    · rw [decide_eq_true h, decide_eq_true (by omega)]
    · rw [decide_eq_false h, decide_eq_false (by omega)]
  rw [e, e, e]
  simp only [Nat.zero_add, Nat.add_zero]
end Go.Proofs.YtangdmjdjiddcaaDoor.rune
