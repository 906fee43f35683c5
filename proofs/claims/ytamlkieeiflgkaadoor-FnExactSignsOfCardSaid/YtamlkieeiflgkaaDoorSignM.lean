/- SignAt and SignsOf, plain. -/
import Derived.Test.YtamlkieeiflgkaaDoorReadQM
import Derived.Test.YtamlkieeiflgkaaDoorWholeM
namespace Go.Proofs.YtamlkieeiflgkaaDoor.sign
open Go Go.RowKit
set_option linter.unusedVariables false

structure Sg where
  kind : Int
  text : ByteArray
  num : Int
  at_ : Int
def zero : Sg := ⟨0, ⟨#[]⟩, 0, 0⟩
def markK (x : Int) : Int := if x = 123 then 1 else if x = 125 then 2 else if x = 91 then 3 else if x = 93 then 4 else if x = 58 then 5 else if x = 44 then 6 else 0
/-- The word stands at p. -/
def Told (s : ByteArray) (p : Nat) (l : List UInt8) : Prop := p + l.length ≤ s.size ∧ s.extract p (p + l.length) = ⟨l.toArray⟩
instance (s : ByteArray) (p : Nat) (l : List UInt8) : Decidable (Told s p l) := by unfold Told; exact inferInstance
def trueW : List UInt8 := [116, 114, 117, 101]
def falseW : List UInt8 := [102, 97, 108, 115, 101]
def nullW : List UInt8 := [110, 117, 108, 108]
theorem told_at {s : ByteArray} {p : Nat} {l : List UInt8} (h : Told s p l) (k : Nat) (hk : k < l.length) : at_ s (p + k) = ((l.getD k 0).toNat : Int) := by
  have h1 := congrArg (fun x : ByteArray => x.data.toList[k]?) h.2
  simp only [ByteArray.data_extract, Array.toList_extract, List.extract_eq_take_drop] at h1
  rw [List.getElem?_take_of_lt (by omega), List.getElem?_drop] at h1
  unfold Go.Proofs.YtamlkieeiflgkaaDoor.at_
  rw [List.getD_eq_getElem?_getD, h1, List.getD_eq_getElem?_getD]
def wordK (s : ByteArray) (p : Nat) : Int × Nat := if Told s p trueW then (9, 4) else if Told s p falseW then (10, 5) else if Told s p nullW then (11, 4) else (0, 0)
theorem word_true {s : ByteArray} {p : Nat} (h : Told s p trueW) : wordK s p = (9, 4) := if_pos h
theorem word_false {s : ByteArray} {p : Nat} (h0 : ¬ Told s p trueW) (h : Told s p falseW) : wordK s p = (10, 5) := by unfold wordK; rw [if_neg h0, if_pos h]
theorem word_null {s : ByteArray} {p : Nat} (h0 : ¬ Told s p trueW) (h1 : ¬ Told s p falseW) (h : Told s p nullW) : wordK s p = (11, 4) := by unfold wordK; rw [if_neg h0, if_neg h1, if_pos h]
theorem word_no {s : ByteArray} {p : Nat} (h0 : ¬ Told s p trueW) (h1 : ¬ Told s p falseW) (h : ¬ Told s p nullW) : wordK s p = (0, 0) := by unfold wordK; rw [if_neg h0, if_neg h1, if_neg h]
theorem told_first {s : ByteArray} {p : Nat} {b : UInt8} {l : List UInt8} (h : Told s p (b :: l)) : at_ s p = (b.toNat : Int) := by
  have := told_at h 0 (by simp)
  simpa using this
theorem word_else {s : ByteArray} {p : Nat} (h1 : at_ s p ≠ 116) (h2 : at_ s p ≠ 102) (h3 : at_ s p ≠ 110) : ¬ Told s p trueW ∧ ¬ Told s p falseW ∧ ¬ Told s p nullW :=
  ⟨fun h => h1 (told_first h), fun h => h2 (told_first h), fun h => h3 (told_first h)⟩
theorem word_first {s : ByteArray} {p : Nat} (h : (wordK s p).1 ≠ 0) : at_ s p = 116 ∨ at_ s p = 102 ∨ at_ s p = 110 := by
  by_cases h1 : at_ s p = 116
  · exact .inl h1
  by_cases h2 : at_ s p = 102
  · exact .inr (.inl h2)
  by_cases h3 : at_ s p = 110
  · exact .inr (.inr h3)
  have := word_else h1 h2 h3
  rw [word_no this.1 this.2.1 this.2.2] at h
  exact absurd rfl h
theorem word_bd (s : ByteArray) (p : Nat) : wordK s p = (0, 0) ∨ (0 < (wordK s p).1 ∧ 0 < (wordK s p).2 ∧ p + (wordK s p).2 ≤ s.size) := by
  by_cases h1 : Told s p trueW
  · rw [word_true h1]; exact .inr ⟨by decide, by decide, h1.1⟩
  by_cases h2 : Told s p falseW
  · rw [word_false h1 h2]; exact .inr ⟨by decide, by decide, h2.1⟩
  by_cases h3 : Told s p nullW
  · rw [word_null h1 h2 h3]; exact .inr ⟨by decide, by decide, h3.1⟩
  · exact .inl (word_no h1 h2 h3)

/-- No number without a digit or '-'. -/
theorem whole_no {s : ByteArray} {p : Nat} (hp : p < s.size) (h : ¬ (at_ s p = 45 ∨ (48 ≤ at_ s p ∧ at_ s p ≤ 57))) : whole.wholeF s (p : Int) = (0, -1) := by
  rw [whole.whole_in hp]
  unfold whole.wholeN whole.head
  rw [if_neg (fun e => h (.inl e)), if_pos]
  refine .inl (whole.run_end (by omega) (Nat.zero_le _) ?_)
  rw [Nat.add_zero]
  omega
theorem whole_bd (s : ByteArray) (a : Int) : whole.wholeF s a = (0, -1) ∨ ∃ q : Nat, (whole.wholeF s a).2 = (q : Int) ∧ a < (q : Int) ∧ q ≤ s.size ∧ -9223372036854775808 ≤ (whole.wholeF s a).1 ∧ (whole.wholeF s a).1 ≤ 9223372036854775807 := by
  unfold whole.wholeF
  split
  · rename_i ha
    obtain ⟨p, rfl⟩ := Int.eq_ofNat_of_zero_le ha.1
    rw [Int.toNat_natCast]
    unfold whole.wholeN
    split
    · exact .inl rfl
    rename_i hb
    have h0 : whole.run s (whole.head s p) ≠ 0 := fun e => hb (.inl e)
    unfold whole.head at h0
    split
    · rename_i h45
      rw [if_pos h45] at h0
      have := whole.run_le s (p + 1) (by omega)
      split
      · exact .inr ⟨_, rfl, by omega, by omega, by simp only; omega, by simp only; omega⟩
      · exact .inl rfl
    · rename_i h45
      rw [if_neg h45] at h0
      have := whole.run_le s p (by omega)
      split
      · exact .inr ⟨_, rfl, by omega, by omega, by simp only; omega, by simp only; omega⟩
      · exact .inl rfl
  · exact .inl rfl

noncomputable def signN (s : ByteArray) (a : Nat) : Sg × Int :=
  if markK (at_ s a) ≠ 0 then (⟨markK (at_ s a), ⟨#[]⟩, 0, a⟩, ((a + 1 : Nat) : Int))
  else if at_ s a = 34 then (if (readq.readF s (a : Int)).2 < 0 then (zero, -1) else (⟨7, (readq.readF s (a : Int)).1, 0, a⟩, (readq.readF s (a : Int)).2))
  else if at_ s a = 45 ∨ (48 ≤ at_ s a ∧ at_ s a ≤ 57) then (if (whole.wholeF s (a : Int)).2 < 0 then (zero, -1) else (⟨8, ⟨#[]⟩, (whole.wholeF s (a : Int)).1, a⟩, (whole.wholeF s (a : Int)).2))
  else if (wordK s a).1 ≠ 0 then (⟨(wordK s a).1, ⟨#[]⟩, 0, a⟩, ((a + (wordK s a).2 : Nat) : Int))
  else (zero, -1)
noncomputable def signF (s : ByteArray) (a : Int) : Sg × Int := if 0 ≤ a ∧ a < s.size then signN s a.toNat else (zero, -1)
theorem sign_out {s : ByteArray} {a : Int} (h : ¬ (0 ≤ a ∧ a < s.size)) : signF s a = (zero, -1) := if_neg h
theorem sign_in {s : ByteArray} {a : Nat} (h : a < s.size) : signF s (a : Int) = signN s a := by
  unfold signF
  rw [if_pos ⟨by omega, by omega⟩, Int.toNat_natCast]
theorem n_mark {s : ByteArray} {a : Nat} (h : markK (at_ s a) ≠ 0) : signN s a = (⟨markK (at_ s a), ⟨#[]⟩, 0, a⟩, ((a + 1 : Nat) : Int)) := if_pos h
theorem n_text {s : ByteArray} {a : Nat} (h : at_ s a = 34) : signN s a = if (readq.readF s (a : Int)).2 < 0 then (zero, -1) else (⟨7, (readq.readF s (a : Int)).1, 0, a⟩, (readq.readF s (a : Int)).2) := by
  unfold signN
  rw [if_neg (by rw [h]; decide), if_pos h]
theorem n_num {s : ByteArray} {a : Nat} (h : at_ s a = 45 ∨ (48 ≤ at_ s a ∧ at_ s a ≤ 57)) : signN s a = if (whole.wholeF s (a : Int)).2 < 0 then (zero, -1) else (⟨8, ⟨#[]⟩, (whole.wholeF s (a : Int)).1, a⟩, (whole.wholeF s (a : Int)).2) := by
  unfold signN
  have h1 : ¬ markK (at_ s a) ≠ 0 := by
    unfold markK
    simp only [ne_eq, Decidable.not_not]
    rw [if_neg (by omega), if_neg (by omega), if_neg (by omega), if_neg (by omega), if_neg (by omega), if_neg (by omega)]
  rw [if_neg h1, if_neg (by omega), if_pos h]
theorem n_word {s : ByteArray} {a : Nat} (h : (wordK s a).1 ≠ 0) : signN s a = (⟨(wordK s a).1, ⟨#[]⟩, 0, a⟩, ((a + (wordK s a).2 : Nat) : Int)) := by
  have hf := word_first h
  unfold signN
  have h1 : ¬ markK (at_ s a) ≠ 0 := by
    unfold markK
    simp only [ne_eq, Decidable.not_not]
    rw [if_neg (by omega), if_neg (by omega), if_neg (by omega), if_neg (by omega), if_neg (by omega), if_neg (by omega)]
  rw [if_neg h1, if_neg (by omega), if_neg (by omega), if_pos h]
theorem n_none {s : ByteArray} {a : Nat} (h1 : markK (at_ s a) = 0) (h2 : at_ s a ≠ 34) (h3 : ¬ (at_ s a = 45 ∨ (48 ≤ at_ s a ∧ at_ s a ≤ 57))) (h4 : wordK s a = (0, 0)) : signN s a = (zero, -1) := by
  unfold signN
  rw [if_neg (by rw [h1]; decide), if_neg h2, if_neg h3, if_neg (by rw [h4]; decide)]
theorem sign_bd (s : ByteArray) (a : Nat) (ha : a < s.size) : signN s a = (zero, -1) ∨ ∃ q : Nat, (signN s a).2 = (q : Int) ∧ a < q ∧ q ≤ s.size := by
  by_cases h1 : markK (at_ s a) ≠ 0
  · rw [n_mark h1]; exact .inr ⟨a + 1, rfl, by omega, by omega⟩
  by_cases h2 : at_ s a = 34
  · rw [n_text h2]
    split
    · exact .inl rfl
    · rename_i hn
      rcases readq.readF_bd s a with e | ⟨q, e, h3, h4⟩
      · rw [e] at hn; exact absurd (by decide) hn
      · exact .inr ⟨q, e, by omega, h4⟩
  by_cases h3 : at_ s a = 45 ∨ (48 ≤ at_ s a ∧ at_ s a ≤ 57)
  · rw [n_num h3]
    split
    · exact .inl rfl
    · rename_i hn
      rcases whole_bd s a with e | ⟨q, e, h5, h4, _⟩
      · rw [e] at hn; exact absurd (by decide) hn
      · exact .inr ⟨q, e, by omega, h4⟩
  rcases word_bd s a with e | ⟨h4, h5, h6⟩
  · exact .inl (n_none (by omega) h2 h3 e)
  · rw [n_word (by omega)]; exact .inr ⟨_, rfl, by omega, h6⟩

/-! SignsOf. -/
def blank (x : Int) : Prop := x = 32 ∨ x = 9 ∨ x = 10 ∨ x = 13
instance (x : Int) : Decidable (blank x) := by unfold blank; exact inferInstance
/-- The first place from p on at which no code point is told. -/
noncomputable def badAt (s : ByteArray) (p : Nat) : Option Nat :=
  if hp : p < s.size then (if h : (rune.atF s (p : Int)).2 ≤ (p : Int) then some p else badAt s (rune.atF s (p : Int)).2.toNat) else none
termination_by s.size - p
decreasing_by omega
theorem bad_end {s : ByteArray} {p : Nat} (h : s.size ≤ p) : badAt s p = none := by rw [badAt, dif_neg (by omega)]
theorem bad_here {s : ByteArray} {p : Nat} (h : p < s.size) (h2 : (rune.atF s (p : Int)).2 < 0) : badAt s p = some p := by rw [badAt, dif_pos h, dif_pos (by omega)]
theorem bad_go {s : ByteArray} {p q : Nat} (h : p < s.size) (h2 : (rune.atF s (p : Int)).2 = (q : Int)) (hq : p < q) : badAt s p = badAt s q := by
  rw [badAt, dif_pos h, dif_neg (by omega), h2, Int.toNat_natCast]
/-- The signs from place p on, behind l; or the place at which none begins. -/
noncomputable def signsF (s : ByteArray) (p : Nat) (l : List Sg) : Except Nat (List Sg) :=
  if hp : p < s.size then
    if blank (at_ s p) then signsF s (p + 1) l
    else if h : (signN s p).2 ≤ (p : Int) then .error p
    else signsF s (signN s p).2.toNat (l ++ [(signN s p).1])
  else .ok l
termination_by s.size - p
decreasing_by all_goals omega
theorem signs_end {s : ByteArray} {p : Nat} {l : List Sg} (h : s.size ≤ p) : signsF s p l = .ok l := by rw [signsF, dif_neg (by omega)]
theorem signs_blank {s : ByteArray} {p : Nat} {l : List Sg} (h : p < s.size) (h2 : blank (at_ s p)) : signsF s p l = signsF s (p + 1) l := by rw [signsF, dif_pos h, if_pos h2]
theorem signs_bad {s : ByteArray} {p : Nat} {l : List Sg} (h : p < s.size) (h2 : ¬ blank (at_ s p)) (h3 : (signN s p).2 < 0) : signsF s p l = .error p := by rw [signsF, dif_pos h, if_neg h2, dif_pos (by omega)]
theorem signs_go {s : ByteArray} {p q : Nat} {l : List Sg} (h : p < s.size) (h2 : ¬ blank (at_ s p)) (h3 : (signN s p).2 = (q : Int)) (hq : p < q) : signsF s p l = signsF s q (l ++ [(signN s p).1]) := by
  rw [signsF, dif_pos h, if_neg h2, dif_neg (by omega), h3, Int.toNat_natCast]
/-- Behind the blanks from p on. -/
def isB (b : UInt8) : Bool := b.toNat == 32 || b.toNat == 9 || b.toNat == 10 || b.toNat == 13
def skip (s : ByteArray) (p : Nat) : Nat := p + ((s.data.toList.drop p).takeWhile isB).length
theorem skip_end {s : ByteArray} {p : Nat} (h : s.size ≤ p) : skip s p = p := by
  unfold skip
  rw [List.drop_eq_nil_of_le (by simpa using h)]
  rfl
theorem isB_at (s : ByteArray) (p : Nat) (hp : p < s.size) : isB (s.data.toList[p]'(by simpa using hp)) = true ↔ blank (at_ s p) := by
  unfold isB blank Go.Proofs.YtamlkieeiflgkaaDoor.at_
  rw [List.getD_eq_getElem?_getD, List.getElem?_eq_getElem (by simpa using hp), Option.getD_some]
  simp only [Bool.or_eq_true, beq_iff_eq]
  omega
theorem skip_yes {s : ByteArray} {p : Nat} (h : p < s.size) (h2 : blank (at_ s p)) : skip s p = skip s (p + 1) := by
  unfold skip
  rw [List.drop_eq_getElem_cons (by simpa using h), List.takeWhile_cons, if_pos ((isB_at s p h).2 h2), List.length_cons]
  omega
theorem skip_no {s : ByteArray} {p : Nat} (h : p < s.size) (h2 : ¬ blank (at_ s p)) : skip s p = p := by
  unfold skip
  rw [List.drop_eq_getElem_cons (by simpa using h), List.takeWhile_cons, if_neg (fun e => h2 ((isB_at s p h).1 e))]
  rfl
theorem skip_at : ∀ (n : Nat) (s : ByteArray) (p : Nat), s.size - p = n → p ≤ s.size → p ≤ skip s p ∧ skip s p ≤ s.size ∧ (skip s p < s.size → ¬ blank (at_ s (skip s p))) ∧ ∀ l, signsF s p l = signsF s (skip s p) l := by
  intro n
  induction n with
  | zero => intro s p hn hp; rw [skip_end (by omega)]; exact ⟨by omega, hp, fun h => by omega, fun l => rfl⟩
  | succ n ih =>
    intro s p hn hp
    by_cases hb : blank (at_ s p)
    · have h1 := ih s (p + 1) (by omega) (by omega)
      rw [← skip_yes (by omega) hb] at h1
      exact ⟨by omega, h1.2.1, h1.2.2.1, fun l => by rw [signs_blank (by omega) hb]; exact h1.2.2.2 l⟩
    · rw [skip_no (by omega) hb]; exact ⟨by omega, hp, fun _ => hb, fun l => rfl⟩
structure Ft where
  code : Int
  at_ : Int
  path : ByteArray
noncomputable def allF (s : ByteArray) : List Sg × Ft :=
  if 20000 < s.size then ([], ⟨1, 0, ⟨#[]⟩⟩) else match badAt s 0 with
  | some q => ([], ⟨2, q, ⟨#[]⟩⟩)
  | none => match signsF s 0 [] with
    | .error q => ([], ⟨3, q, ⟨#[]⟩⟩)
    | .ok l => (l, ⟨0, 0, ⟨#[]⟩⟩)
theorem all_long {s : ByteArray} (h : 20000 < s.size) : allF s = ([], ⟨1, 0, ⟨#[]⟩⟩) := if_pos h
theorem all_bad {s : ByteArray} {q : Nat} (h : ¬ 20000 < s.size) (h2 : badAt s 0 = some q) : allF s = ([], ⟨2, q, ⟨#[]⟩⟩) := by unfold allF; rw [if_neg h, h2]
theorem all_sign {s : ByteArray} {q : Nat} (h : ¬ 20000 < s.size) (h2 : badAt s 0 = none) (h3 : signsF s 0 [] = .error q) : allF s = ([], ⟨3, q, ⟨#[]⟩⟩) := by unfold allF; rw [if_neg h, h2, h3]
theorem all_ok {s : ByteArray} {l : List Sg} (h : ¬ 20000 < s.size) (h2 : badAt s 0 = none) (h3 : signsF s 0 [] = .ok l) : allF s = (l, ⟨0, 0, ⟨#[]⟩⟩) := by unfold allF; rw [if_neg h, h2, h3]
end Go.Proofs.YtamlkieeiflgkaaDoor.sign
