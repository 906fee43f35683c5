/- A text of runes beside the bytes 34, 35, 92: plain. -/
import Derived.Test.YtegpcjkcejijpaaDoorPlainM
import Derived.Test.YtegpcjkcejijpaaDoorQuoteM
namespace Go.Proofs.YtegpcjkcejijpaaDoor.line
open Go.ChangeShapes Go.WideShapes Go.ChangeAt Go.RowKit
set_option linter.unusedVariables false

/-- One of the three. -/
def three (x : Int) : Prop := x = 34 ∨ x = 35 ∨ x = 92
instance (x : Int) : Decidable (three x) := by unfold three; exact inferInstance
def Any3 (s : ByteArray) : Prop := ∃ k, k < s.size ∧ three (at_ s k)
noncomputable instance (s : ByteArray) : Decidable (Any3 s) := Classical.propDecidable _
def No3 (s : ByteArray) (i : Nat) : Prop := ∀ j, j < i → ¬ three (at_ s j)
theorem no3_none {s : ByteArray} {i : Nat} (h : No3 s i) (hi : s.size ≤ i) : ¬ Any3 s := by
  rintro ⟨k, hk, h2⟩
  exact h k (by omega) h2
theorem three_all : ∀ n : Fin 256, decide (0 ≤ Lib.indexByte [34, 35, 92] (UInt8.ofNat n.val)) = decide (three (n.val : Int)) := by decide +kernel
theorem three_index (x : Int) (h0 : 0 ≤ x) (h1 : x < 256) : decide (0 ≤ Lib.indexByte [34, 35, 92] x.toNat.toUInt8) = decide (three x) := by
  have h := three_all ⟨x.toNat, by omega⟩
  simp only at h
  have e : ((x.toNat : Nat) : Int) = x := by omega
  rw [e] at h
  exact h
theorem dec_any (s : ByteArray) (i : Nat) (h : i < s.size) : ∃ n k : Nat, Utf8.decode s i = (n, k) ∧ rune.valid n ∧ 0 < k ∧
    ((k = 1 ∧ (n : Int) = at_ s i ∧ n < 128) ∨ (128 ≤ n ∧ i + k ≤ s.size ∧ ∀ j, j < k → 128 ≤ at_ s (i + j))) := by
  rcases rune.decode_is s i h with ⟨h1, e⟩ | ⟨e, h1⟩
  · refine ⟨(Utf8.decode s i).1, (Utf8.decode s i).2, rfl, h1.1, by rw [e]; exact rune.enc_pos _, ?_⟩
    by_cases c : (Utf8.decode s i).1 < 128
    · left
      have := rune.enc1 c
      have h3 := h1.2.2 0 (rune.enc_pos _)
      rw [this] at h3
      rw [e, this]
      exact ⟨rfl, h3.symm, c⟩
    · right
      refine ⟨by omega, by rw [e]; exact h1.2.1, fun j hj => ?_⟩
      rw [e] at hj
      rw [h1.2.2 j hj, List.getD_eq_getElem?_getD, List.getElem?_eq_getElem hj, Option.getD_some]
      have := quote.enc_hi h1.1 (by omega) _ (List.getElem_mem hj)
      omega
  · refine ⟨65533, 1, e, by unfold rune.valid; omega, by omega, .inr ⟨by omega, by omega, fun j hj => ?_⟩⟩
    obtain rfl : j = 0 := by omega
    rw [Nat.add_zero]
    rcases Int.lt_or_le (at_ s i) 128 with c | c
    · have b := at_bd s i
      exact absurd (rune.is_of1 (n := (at_ s i).toNat) (by omega) (by omega) (by omega)) (h1 _)
    · exact c
theorem enc_tail {n : Nat} (h : rune.valid n) (h1 : 128 ≤ n) : ∃ (T : ByteArray) (L : Nat), Utf8.encode (n : Int) = T ∧ T.size = L ∧ (L = 2 ∨ L = 3 ∨ L = 4) ∧ 128 ≤ at_ T (L - 1) := by
  refine ⟨rune.textF (n : Int), (rune.enc n).length, rune.encode_text ((rune.okR_nat n).2 h), rune.text_size h, ?_, ?_⟩
  · have := rune.enc_le n
    have h2 : 2 ≤ (rune.enc n).length := by
      unfold rune.enc
      rw [if_neg (by omega)]
      repeat' split
      all_goals simp
    omega
  · have hp := rune.enc_pos n
    unfold at_
    rw [rune.text_yes h]
    show 128 ≤ (((rune.encB n).getD ((rune.enc n).length - 1) 0).toNat : Int)
    have hl : (rune.enc n).length - 1 < (rune.encB n).length := by rw [rune.encB_length]; omega
    rw [List.getD_eq_getElem?_getD, List.getElem?_eq_getElem hl, Option.getD_some]
    have e : (rune.encB n)[(rune.enc n).length - 1] = UInt8.ofNat ((rune.enc n)[(rune.enc n).length - 1]'(by omega)) := by simp [rune.encB]
    rw [e]
    have hm := List.getElem_mem (l := rune.enc n) (n := (rune.enc n).length - 1) (by omega)
    have a := quote.enc_hi h h1 _ hm
    have b := rune.enc_lt h _ hm
    rw [UInt8.toNat_ofNat_of_lt' (by simpa using b)]
    omega
end Go.Proofs.YtegpcjkcejijpaaDoor.line
