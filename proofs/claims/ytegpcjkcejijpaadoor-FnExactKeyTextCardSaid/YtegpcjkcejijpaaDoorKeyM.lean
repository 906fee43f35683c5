/- Where a key ends, plain. -/
import Derived.Test.YtegpcjkcejijpaaDoorLineM
namespace Go.Proofs.YtegpcjkcejijpaaDoor.line
open Go.ChangeShapes Go.WideShapes Go.ChangeAt Go.RowKit
set_option linter.unusedVariables false

/-- At byte i a key may end. -/
def ends (s : ByteArray) (i : Nat) : Prop := i < s.size ∧ at_ s i = 58 ∧ (i + 1 = s.size ∨ at_ s (i + 1) = 32)
instance (s : ByteArray) (i : Nat) : Decidable (ends s i) := by unfold ends; exact inferInstance
def keF (s : ByteArray) (i : Nat) : Int :=
  if h : i < s.size then if ends s i then (i : Int) else keF s (i + 1) else -1
termination_by s.size - i
theorem keF_out {s : ByteArray} {i : Nat} (h : s.size ≤ i) : keF s i = -1 := by rw [keF, dif_neg (by omega)]
theorem keF_here {s : ByteArray} {i : Nat} (h : ends s i) : keF s i = (i : Int) := by rw [keF, dif_pos h.1, if_pos h]
theorem keF_on {s : ByteArray} {i : Nat} (h : i < s.size) (h2 : ¬ ends s i) : keF s i = keF s (i + 1) := by rw [keF, dif_pos h, if_neg h2]
/-- Where the key of a line ends; -1: nowhere. -/
def ke (s : ByteArray) : Int := keF s 0
theorem keF_cases (s : ByteArray) : ∀ (k i : Nat), s.size - i ≤ k → (∀ j, j < i → ¬ ends s j) → (∃ n : Nat, keF s i = (n : Int) ∧ i ≤ n ∧ ends s n ∧ ∀ j, j < n → ¬ ends s j) ∨ (keF s i = -1 ∧ ∀ j, ¬ ends s j)
  | 0, i, h, hj => .inr ⟨keF_out (by omega), fun j hj2 => by
      rcases Nat.lt_or_ge j i with h1 | h1
      · exact hj j h1 hj2
      · exact absurd hj2.1 (by omega)⟩
  | k + 1, i, h, hj => by
    by_cases hi : i < s.size
    · by_cases c : ends s i
      · exact .inl ⟨i, keF_here c, Nat.le_refl _, c, hj⟩
      · rw [keF_on hi c]
        rcases keF_cases s k (i + 1) (by omega) (fun j h1 h2 => by
          by_cases e : j = i
          · exact c (e ▸ h2)
          · exact hj j (by omega) h2) with ⟨n, h1, h2, h3⟩ | h1
        · exact .inl ⟨n, h1, by omega, h3⟩
        · exact .inr h1
    · exact .inr ⟨keF_out (by omega), fun j hj2 => by
        rcases Nat.lt_or_ge j i with h1 | h1
        · exact hj j h1 hj2
        · exact absurd hj2.1 (by omega)⟩
theorem ke_cases (s : ByteArray) : (∃ n : Nat, ke s = (n : Int) ∧ ends s n ∧ ∀ j, j < n → ¬ ends s j) ∨ (ke s = -1 ∧ ∀ j, ¬ ends s j) := by
  rcases keF_cases s _ 0 (Nat.le_refl _) (fun j h => by omega) with ⟨n, h1, h2, h3⟩ | h
  · exact .inl ⟨n, h1, h3⟩
  · exact .inr h
theorem ke_yes {s : ByteArray} {n : Nat} (h : ends s n) (h2 : ∀ j, j < n → ¬ ends s j) : ke s = (n : Int) := by
  rcases ke_cases s with ⟨m, h3, h4, h5⟩ | ⟨_, h3⟩
  · have : m = n := by
      rcases Nat.lt_trichotomy m n with h6 | h6 | h6
      · exact absurd h4 (h2 m h6)
      · exact h6
      · exact absurd h (h5 n h6)
    rw [h3, this]
  · exact absurd h (h3 n)
theorem ke_no {s : ByteArray} (h : ∀ j, ¬ ends s j) : ke s = -1 := by
  rcases ke_cases s with ⟨m, h3, h4, h5⟩ | ⟨h3, _⟩
  · exact absurd h4 (h m)
  · exact h3
/-- The first of two bytes that stand side by side. -/
theorem occ_two (s : ByteArray) (i : Nat) (b c : UInt8) : Lib.occAt s.data.toList [b, c] i = true ↔ i + 1 < s.size ∧ at_ s i = (b.toNat : Int) ∧ at_ s (i + 1) = (c.toNat : Int) := by
  unfold Lib.occAt
  rw [List.isPrefixOf_iff_prefix]
  constructor
  · rintro ⟨t, ht⟩
    have h0 : s.data.toList[i]? = some b := by
      have : (s.data.toList.drop i)[0]? = some b := by rw [← ht]; rfl
      simpa [List.getElem?_drop] using this
    have h1 : s.data.toList[i + 1]? = some c := by
      have : (s.data.toList.drop i)[1]? = some c := by rw [← ht]; rfl
      simpa [List.getElem?_drop] using this
    have hl := (List.getElem?_eq_some_iff.1 h1).1
    rw [len_list] at hl
    exact ⟨hl, byte_at _ _ _ h0, byte_at _ _ _ h1⟩
  · rintro ⟨h0, h1, h2⟩
    have g0 : i < s.data.toList.length := by rw [len_list]; omega
    have g1 : i + 1 < s.data.toList.length := by rw [len_list]; omega
    have e0 : s.data.toList[i] = b := by
      have := byte_at s i _ (List.getElem?_eq_getElem g0)
      exact UInt8.toNat_inj.1 (by omega)
    have e1 : s.data.toList[i + 1] = c := by
      have := byte_at s (i + 1) _ (List.getElem?_eq_getElem g1)
      exact UInt8.toNat_inj.1 (by omega)
    refine ⟨s.data.toList.drop (i + 1 + 1), ?_⟩
    rw [List.drop_eq_getElem_cons g0, List.drop_eq_getElem_cons g1, e0, e1]
    rfl
theorem suf_one (s : ByteArray) (b : UInt8) : Lib.hasSuffix s.data.toList [b] = true ↔ 0 < s.size ∧ at_ s (s.size - 1) = (b.toNat : Int) := by
  unfold Lib.hasSuffix
  rw [List.isSuffixOf_iff_suffix]
  constructor
  · rintro ⟨t, ht⟩
    have hl : t.length + 1 = s.size := by rw [← len_list, ← ht]; simp
    have h0 : s.data.toList[s.size - 1]? = some b := by
      rw [← ht, show s.size - 1 = t.length by omega]
      simp
    exact ⟨by omega, byte_at _ _ _ h0⟩
  · rintro ⟨h0, h1⟩
    have g0 : s.size - 1 < s.data.toList.length := by rw [len_list]; omega
    have e0 : s.data.toList[s.size - 1] = b := by
      have := byte_at s (s.size - 1) _ (List.getElem?_eq_getElem g0)
      exact UInt8.toNat_inj.1 (by omega)
    refine ⟨s.data.toList.take (s.size - 1), ?_⟩
    have : s.data.toList.drop (s.size - 1) = [b] := by
      rw [List.drop_eq_getElem_cons g0, e0, List.drop_eq_nil_of_le (by rw [len_list]; omega)]
    rw [← this, List.take_append_drop]
/-- The first colon with a space behind it, or the last byte if it is a colon. -/
theorem ke_index (s : ByteArray) :
    (0 ≤ Lib.index s.data.toList [58, 32] ∧ Lib.index s.data.toList [58, 32] = ke s) ∨
    (Lib.index s.data.toList [58, 32] = -1 ∧ Lib.hasSuffix s.data.toList [58] = true ∧ 0 < s.size ∧ ke s = ((s.size - 1 : Nat) : Int)) ∨
    (Lib.index s.data.toList [58, 32] = -1 ∧ Lib.hasSuffix s.data.toList [58] = false ∧ ke s = -1) := by
  have hocc : ∀ i, Lib.occAt s.data.toList [58, 32] i = true → ends s i := fun i h => by
    obtain ⟨h0, h1, h2⟩ := (occ_two s i 58 32).1 h
    exact ⟨by omega, h1, .inr h2⟩
  have hend : ∀ i, ends s i → Lib.occAt s.data.toList [58, 32] i = true ∨ i + 1 = s.size := fun i ⟨h0, h1, h2⟩ => by
    by_cases e : i + 1 = s.size
    · exact .inr e
    · rcases h2 with h2 | h2
      · exact .inr h2
      · exact .inl ((occ_two s i 58 32).2 ⟨by omega, h1, h2⟩)
  by_cases hx : ∃ i, Lib.occAt s.data.toList [58, 32] i = true
  · rcases ke_cases s with ⟨n, h1, h2, h3⟩ | ⟨_, h1⟩
    · obtain ⟨i, hi⟩ := hx
      have hi2 := (occ_two s i 58 32).1 hi
      have hle : n ≤ i := Nat.le_of_not_lt fun h => h3 i h (hocc i hi)
      have hn : Lib.occAt s.data.toList [58, 32] n = true := by
        rcases hend n h2 with h | h
        · exact h
        · omega
      left
      have e : Lib.index s.data.toList [58, 32] = (n : Int) := Lib.index_first (by rw [len_list]; omega) hn (fun j hj => by
        cases e : Lib.occAt s.data.toList [58, 32] j with
        | false => rfl
        | true => exact absurd (hocc j e) (h3 j hj))
      rw [e, h1]
      exact ⟨by omega, rfl⟩
    · obtain ⟨i, hi⟩ := hx
      exact absurd (hocc i hi) (h1 i)
  · right
    have e : Lib.index s.data.toList [58, 32] = -1 := Lib.index_none (fun j _ => by
      cases e : Lib.occAt s.data.toList [58, 32] j with
      | false => rfl
      | true => exact absurd ⟨j, e⟩ hx)
    by_cases c : Lib.hasSuffix s.data.toList [58] = true
    · left
      obtain ⟨h0, h1⟩ := (suf_one s 58).1 c
      refine ⟨e, c, h0, ke_yes ⟨by omega, h1, .inl (by omega)⟩ (fun j hj h => ?_)⟩
      rcases hend j h with h2 | h2
      · exact hx ⟨j, h2⟩
      · omega
    · right
      refine ⟨e, by simpa using c, ke_no (fun j h => ?_)⟩
      rcases hend j h with h2 | h2
      · exact hx ⟨j, h2⟩
      · refine c ((suf_one s 58).2 ⟨by have := h.1; omega, ?_⟩)
        rw [show s.size - 1 = j by omega]
        exact h.2.1
theorem ends_drop (s : ByteArray) (a i : Nat) (ha : a ≤ s.size) : ends (s.extract a s.size) i ↔ ends s (a + i) := by
  have hz := size_ex s a s.size (Nat.le_refl _)
  have hat : ∀ k, a + k < s.size → at_ (s.extract a s.size) k = at_ s (a + k) := fun k h => at_ex s a s.size k (Nat.le_refl _) h
  unfold ends
  rw [hz]
  by_cases c : a + i < s.size
  · rw [hat i c]
    by_cases c2 : a + i + 1 < s.size
    · have h2 := hat (i + 1) (by omega)
      rw [h2, show a + (i + 1) = a + i + 1 by omega]
      constructor
      · rintro ⟨h0, h1, h3⟩; exact ⟨c, h1, by omega⟩
      · rintro ⟨h0, h1, h3⟩; exact ⟨by omega, h1, by omega⟩
    · constructor
      · rintro ⟨h0, h1, h3⟩; exact ⟨c, h1, .inl (by omega)⟩
      · rintro ⟨h0, h1, h3⟩; exact ⟨by omega, h1, .inl (by omega)⟩
  · constructor
    · rintro ⟨h0, _⟩; omega
    · rintro ⟨h0, _⟩; omega
theorem ke_zero (s : ByteArray) (a : Nat) (ha : a ≤ s.size) : ke (s.extract a s.size) = 0 ↔ ends s a := by
  have h := ends_drop s a 0 ha
  rw [Nat.add_zero] at h
  rw [← h]
  constructor
  · intro e
    rcases ke_cases (s.extract a s.size) with ⟨n, h1, h2, _⟩ | ⟨h1, _⟩
    · have : n = 0 := by omega
      exact this ▸ h2
    · omega
  · intro e
    exact ke_yes (n := 0) e (fun j hj => absurd hj (Nat.not_lt_zero j))
end Go.Proofs.YtegpcjkcejijpaaDoor.line
