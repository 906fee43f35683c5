/- ReadQuoted, plain: what stands inside the quotes, step by step. -/
import Derived.Test.YtegpcjkcejijpaaDoorRuneM
namespace Go.Proofs.YtegpcjkcejijpaaDoor.readq
open Go Go.RowKit
set_option linter.unusedVariables false

/-- The value of a digit of either case; -1. -/
def hexv (x : Int) : Int := if 48 ≤ x ∧ x ≤ 57 then x - 48 else if 97 ≤ x ∧ x ≤ 102 then x - 87 else if 65 ≤ x ∧ x ≤ 70 then x - 55 else -1
theorem hexv_lt (x : Int) : -1 ≤ hexv x ∧ hexv x < 16 := by
  unfold hexv
  split
  · omega
  · split
    · omega
    · split <;> omega
/-- The number of k digits from place p on, where they are digits. -/
def acc (s : ByteArray) (p : Nat) : Nat → Int
  | 0 => 0
  | k + 1 => 16 * acc s p k + hexv (at_ s (p + k))
def digs (s : ByteArray) (p k : Nat) : Prop := ∀ j, j < k → 0 ≤ hexv (at_ s (p + j))
instance (s : ByteArray) (p k : Nat) : Decidable (digs s p k) := by unfold digs; exact inferInstance
theorem acc_bd (s : ByteArray) (p : Nat) : ∀ k, digs s p k → 0 ≤ acc s p k ∧ acc s p k < 16 ^ k
  | 0, _ => ⟨Int.le_refl _, by show (0 : Int) < 16 ^ 0; decide⟩
  | k + 1, h => by
    have h1 := acc_bd s p k (fun j hj => h j (by omega))
    have h2 := h k (by omega)
    have h3 := hexv_lt (at_ s (p + k))
    have h4 : (16 : Int) ^ (k + 1) = 16 * 16 ^ k := by rw [Int.pow_succ]; omega
    show 0 ≤ 16 * acc s p k + hexv (at_ s (p + k)) ∧ 16 * acc s p k + hexv (at_ s (p + k)) < _
    omega
def four (s : ByteArray) (p : Nat) : Int := if p + 4 ≤ s.size ∧ digs s p 4 then acc s p 4 else -1
theorem four_yes {s : ByteArray} {p : Nat} (h : p + 4 ≤ s.size) (h2 : digs s p 4) : four s p = acc s p 4 ∧ 0 ≤ acc s p 4 ∧ acc s p 4 ≤ 65535 := by
  have h3 := acc_bd s p 4 h2
  have e : (16 : Int) ^ 4 = 65536 := by decide
  rw [e] at h3
  exact ⟨if_pos ⟨h, h2⟩, h3.1, by omega⟩
theorem four_no {s : ByteArray} {p : Nat} (h : ¬ (p + 4 ≤ s.size ∧ digs s p 4)) : four s p = -1 := if_neg h
theorem four_bd (s : ByteArray) (p : Nat) : -1 ≤ four s p ∧ four s p ≤ 65535 := by
  by_cases h : p + 4 ≤ s.size ∧ digs s p 4
  · have := four_yes h.1 h.2; omega
  · rw [four_no h]; omega
theorem four_room {s : ByteArray} {p : Nat} (h : 0 ≤ four s p) : p + 4 ≤ s.size := by
  by_cases e : p + 4 ≤ s.size ∧ digs s p 4
  · exact e.1
  · rw [four_no e] at h; omega

/-- A number told by four digits (the mark's letter stands at p), or by two such: the code point, and the place behind. -/
def uF (s : ByteArray) (p : Nat) : Int × Int :=
  if four s (p + 1) < 0 then (0, -1)
  else if 56320 ≤ four s (p + 1) ∧ four s (p + 1) ≤ 57343 then (0, -1)
  else if ¬ (55296 ≤ four s (p + 1) ∧ four s (p + 1) ≤ 56319) then (four s (p + 1), ((p + 5 : Nat) : Int))
  else if p + 7 ≤ s.size ∧ at_ s (p + 5) = 92 ∧ at_ s (p + 6) = 117 ∧ 56320 ≤ four s (p + 7) ∧ four s (p + 7) ≤ 57343 then (65536 + 1024 * (four s (p + 1) - 55296) + four s (p + 7) - 56320, ((p + 11 : Nat) : Int))
  else (0, -1)
/-- The letter at p behind a backslash. -/
def plain (x : Int) : Option Int :=
  if x = 34 then some 34 else if x = 92 then some 92 else if x = 47 then some 47 else if x = 98 then some 8 else if x = 102 then some 12
  else if x = 110 then some 10 else if x = 114 then some 13 else if x = 116 then some 9 else none
def escF (s : ByteArray) (p : Nat) : Int × Int :=
  if p < s.size then
    match plain (at_ s p) with
    | some n => (n, ((p + 1 : Nat) : Int))
    | none => if at_ s p = 117 then uF s p else (0, -1)
  else (0, -1)
noncomputable def runeF (s : ByteArray) (p : Nat) : Int × Int := if (rune.atF s (p : Int)).1 < 32 then (0, -1) else rune.atF s (p : Int)
noncomputable def stepF (s : ByteArray) (p : Nat) : Int × Int := if p < s.size ∧ at_ s p = 92 then escF s (p + 1) else runeF s p

/-- A step either fails, or goes on within the text with a code point. -/
def Fine (s : ByteArray) (p : Nat) (r : Int × Int) : Prop := r.2 = -1 ∨ ∃ q : Nat, r.2 = (q : Int) ∧ p < q ∧ q ≤ s.size ∧ 0 ≤ r.1 ∧ r.1 ≤ 1114111
theorem uF_fine (s : ByteArray) (p : Nat) : Fine s p (uF s p) := by
  unfold uF
  split
  · exact .inl rfl
  rename_i h1
  have h1' := four_room (s := s) (p := p + 1) (by omega)
  have hb := four_bd s (p + 1)
  split
  · exact .inl rfl
  split
  · exact .inr ⟨p + 5, rfl, by omega, by omega, by simp only; omega, by simp only; omega⟩
  split
  · rename_i h
    have h7 := four_room (s := s) (p := p + 7) (by omega)
    exact .inr ⟨p + 11, rfl, by omega, by omega, by simp only; omega, by simp only; omega⟩
  · exact .inl rfl
theorem plain_bd {x n : Int} (h : plain x = some n) : 0 ≤ n ∧ n ≤ 127 := by
  unfold plain at h
  repeat' split at h
  all_goals first | (injection h with h; omega) | cases h
theorem escF_fine (s : ByteArray) (p : Nat) : Fine s p (escF s p) := by
  unfold escF
  split
  · rename_i hp
    split
    · rename_i n hn
      have := plain_bd hn
      exact .inr ⟨p + 1, rfl, by omega, by omega, by simp only; omega, by simp only; omega⟩
    · split
      · exact uF_fine s p
      · exact .inl rfl
  · exact .inl rfl
theorem runeF_fine (s : ByteArray) (p : Nat) : Fine s p (runeF s p) := by
  unfold runeF
  split
  · exact .inl rfl
  · by_cases h : (rune.atF s (p : Int)).2 < 0
    · by_cases hh : ∃ n, rune.Is s p n
      · obtain ⟨n, hn⟩ := hh
        rw [rune.at_yes hn] at h
        simp only at h
        omega
      · rw [rune.at_none (fun n hn => hh ⟨n, hn⟩)]
        exact .inl rfl
    · obtain ⟨n, hi, e⟩ := rune.at_next h
      rw [e]
      have h1 := rune.enc_pos n
      have h2 := hi.2.1
      have h3 := hi.1
      unfold rune.valid at h3
      exact .inr ⟨p + (rune.enc n).length, rfl, by omega, h2, by simp only; omega, by simp only; omega⟩
theorem step_fine (s : ByteArray) (p : Nat) : Fine s p (stepF s p) := by
  unfold stepF
  split
  · rcases escF_fine s (p + 1) with h | ⟨q, h⟩
    · exact .inl h
    · exact .inr ⟨q, h.1, by omega, h.2.2⟩
  · exact runeF_fine s p

/-- The text between the quotes from place p on, behind l, and the place behind the closing quote. -/
noncomputable def readQ (s : ByteArray) (p : Nat) (l : List UInt8) : Option (List UInt8 × Nat) :=
  if hp : p < s.size then
    if at_ s p = 34 then some (l, p + 1)
    else if h : (stepF s p).2 ≤ (p : Int) then none
    else readQ s (stepF s p).2.toNat (l ++ (rune.textF (stepF s p).1).data.toList)
  else none
termination_by s.size - p
decreasing_by omega
theorem read_end {s : ByteArray} {p : Nat} {l : List UInt8} (h : s.size ≤ p) : readQ s p l = none := by rw [readQ, dif_neg (by omega)]
theorem read_close {s : ByteArray} {p : Nat} {l : List UInt8} (h : p < s.size) (h2 : at_ s p = 34) : readQ s p l = some (l, p + 1) := by rw [readQ, dif_pos h, if_pos h2]
theorem read_bad {s : ByteArray} {p : Nat} {l : List UInt8} (h2 : at_ s p ≠ 34 ∨ s.size ≤ p) (h3 : (stepF s p).2 < 0) : readQ s p l = none := by
  by_cases h : p < s.size
  · rw [readQ, dif_pos h, if_neg (by omega), dif_pos (by omega)]
  · exact read_end (by omega)
theorem read_go {s : ByteArray} {p q : Nat} {n : Int} {l : List UInt8} (h : p < s.size) (h2 : at_ s p ≠ 34) (h3 : stepF s p = (n, (q : Int))) (hq : p < q) : readQ s p l = readQ s q (l ++ (rune.textF n).data.toList) := by
  rw [readQ, dif_pos h, if_neg h2, dif_neg (by rw [h3]; simp only; omega), h3]
  rfl
noncomputable def quotedIn (s : ByteArray) (a : Nat) : ByteArray × Int := match readQ s (a + 1) [] with
  | some (l, q) => (⟨l.toArray⟩, (q : Int))
  | none => (⟨#[]⟩, -1)
noncomputable def readF (s : ByteArray) (a : Int) : ByteArray × Int := if 0 ≤ a ∧ a < s.size ∧ at_ s a.toNat = 34 then quotedIn s a.toNat else (⟨#[]⟩, -1)
theorem readF_no {s : ByteArray} {a : Int} (h : ¬ (0 ≤ a ∧ a < s.size ∧ at_ s a.toNat = 34)) : readF s a = (⟨#[]⟩, -1) := if_neg h
theorem readF_yes {s : ByteArray} {a : Nat} (h : a < s.size) (h2 : at_ s a = 34) : readF s (a : Int) = quotedIn s a := by
  unfold readF
  rw [if_pos ⟨by omega, by omega, by simpa using h2⟩, Int.toNat_natCast]
theorem in_some {s : ByteArray} {a q : Nat} {l : List UInt8} (h : readQ s (a + 1) [] = some (l, q)) : quotedIn s a = (⟨l.toArray⟩, (q : Int)) := by unfold quotedIn; rw [h]
theorem in_none {s : ByteArray} {a : Nat} (h : readQ s (a + 1) [] = none) : quotedIn s a = (⟨#[]⟩, -1) := by unfold quotedIn; rw [h]
theorem read_place {s : ByteArray} : ∀ (n p : Nat) (l r : List UInt8) (q : Nat), s.size - p = n → readQ s p l = some (r, q) → p < q ∧ q ≤ s.size := by
  intro n
  induction n using Nat.strongRecOn with
  | _ n ih =>
    intro p l r q hn h
    by_cases hp : p < s.size
    · by_cases h2 : at_ s p = 34
      · rw [read_close hp h2] at h
        injection h with h
        injection h with h h'
        omega
      · rcases step_fine s p with hf | ⟨q', e, h4, h5, _⟩
        · rw [read_bad (.inl h2) (by omega)] at h; cases h
        · have e3 : stepF s p = ((stepF s p).1, (q' : Int)) := by rw [← e]
          rw [read_go hp h2 e3 h4] at h
          have := ih (s.size - q') (by omega) q' _ r q rfl h
          omega
    · rw [read_end (by omega)] at h; cases h
theorem readF_bd (s : ByteArray) (a : Int) : (readF s a = (⟨#[]⟩, -1)) ∨ ∃ q : Nat, (readF s a).2 = (q : Int) ∧ a < (q : Int) ∧ q ≤ s.size := by
  by_cases h : 0 ≤ a ∧ a < s.size ∧ at_ s a.toNat = 34
  · obtain ⟨a, rfl⟩ := Int.eq_ofNat_of_zero_le h.1
    rw [readF_yes (by omega) (by simpa using h.2.2)]
    cases e : readQ s (a + 1) [] with
    | none => exact .inl (in_none e)
    | some p =>
      obtain ⟨l, q⟩ := p
      have := read_place _ (a + 1) [] l q rfl e
      rw [in_some e]
      exact .inr ⟨q, rfl, by omega, this.2⟩
  · exact .inl (readF_no h)
end Go.Proofs.YtegpcjkcejijpaaDoor.readq
