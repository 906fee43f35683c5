/- Words told by what is cut off at both ends: plain. -/
import Derived.Test.YthpgbmglgmjjhaaDoorWdM
import Derived.Lib.SlTrimSet
namespace Go.Proofs.YthpgbmglgmjjhaaDoor.lab
open Go Go.RowKit
set_option linter.unusedVariables false

theorem drop_same {p : UInt8 → Bool} (l : List UInt8) : (l.dropWhile p = l) ↔ ∀ b, l.head? = some b → p b = false := by
  cases l with
  | nil => simp
  | cons a r =>
    rw [List.dropWhile_cons]
    by_cases h : p a = true
    · rw [if_pos h]
      constructor
      · intro e
        have h1 := congrArg List.length e
        have h2 := (List.dropWhile_suffix (p := p) (l := r)).length_le
        rw [List.length_cons] at h1
        omega
      · intro e
        have := e a rfl
        rw [this] at h; cases h
    · rw [if_neg h]
      simp at h
      simp [h]
theorem drop_none {p : UInt8 → Bool} (l : List UInt8) : (l.dropWhile p = []) ↔ ∀ b ∈ l, p b = true := by
  induction l with
  | nil => simp
  | cons a r ih =>
    rw [List.dropWhile_cons]
    by_cases h : p a = true
    · rw [if_pos h, ih]; simp [h]
    · rw [if_neg h]; simp [h]
theorem trim_same (l cs : List UInt8) : (Lib.trimS l cs = l) ↔ (∀ b, l.head? = some b → cs.contains b = false) ∧ (∀ b, l.getLast? = some b → cs.contains b = false) := by
  unfold Lib.trimS Lib.trimLeftS Lib.trimRightS
  constructor
  · intro h
    have h1 := congrArg List.length h
    have h2 := (List.dropWhile_suffix (p := (cs.contains ·)) (l := (l.reverse.dropWhile (cs.contains ·)).reverse)).length_le
    have h3 := (List.dropWhile_suffix (p := (cs.contains ·)) (l := l.reverse)).length_le
    rw [List.length_reverse] at h2 h3
    have h4 : l.reverse.dropWhile (cs.contains ·) = l.reverse := (List.dropWhile_suffix _).eq_of_length (by rw [List.length_reverse]; omega)
    rw [h4, List.reverse_reverse] at h
    refine ⟨(drop_same l).1 h, fun b hb => (drop_same l.reverse).1 h4 b (by rw [List.head?_reverse]; exact hb)⟩
  · rintro ⟨h1, h2⟩
    have h4 : l.reverse.dropWhile (cs.contains ·) = l.reverse := (drop_same l.reverse).2 fun b hb => h2 b (by rw [List.head?_reverse] at hb; exact hb)
    rw [h4, List.reverse_reverse]
    exact (drop_same l).2 h1
theorem trim_none (l cs : List UInt8) : (Lib.trimS l cs = []) ↔ ∀ b ∈ l, cs.contains b = true := by
  unfold Lib.trimS Lib.trimLeftS Lib.trimRightS
  rw [drop_none]
  constructor
  · intro h
    by_cases e : l.reverse.dropWhile (cs.contains ·) = []
    · intro b hb
      exact (drop_none l.reverse).1 e b (List.mem_reverse.2 hb)
    · exfalso
      have hl := List.head?_dropWhile_not (cs.contains ·) l.reverse
      cases hd : l.reverse.dropWhile (cs.contains ·) with
      | nil => exact e hd
      | cons a r =>
        rw [hd] at hl h
        have := h a (by simp)
        simp at hl
        simp [hl] at this
  · intro h b hb
    refine h b ?_
    rw [List.mem_reverse] at hb
    exact List.mem_reverse.1 ((List.dropWhile_suffix _).subset hb)
/-- As impl tells a word. -/
def IdP (most : Nat) (ls ms : List UInt8) (s : ByteArray) : Prop := 1 ≤ s.size ∧ s.size ≤ most ∧ Lib.trimS s.data.toList ms = s.data.toList ∧ Lib.trimS s.data.toList (ls ++ ms) = []
def lowL : List UInt8 := [97, 98, 99, 100, 101, 102, 103, 104, 105, 106, 107, 108, 109, 110, 111, 112, 113, 114, 115, 116, 117, 118, 119, 120, 121, 122, 48, 49, 50, 51, 52, 53, 54, 55, 56, 57]
def allL : List UInt8 := [65, 66, 67, 68, 69, 70, 71, 72, 73, 74, 75, 76, 77, 78, 79, 80, 81, 82, 83, 84, 85, 86, 87, 88, 89, 90] ++ lowL
theorem byte_all {P : UInt8 → Bool} (h : ∀ n, n < 256 → P (UInt8.ofNat n) = true) (b : UInt8) : P b = true := by
  have := h b.toNat b.toNat_lt
  rwa [UInt8.ofNat_toNat] at this
theorem isL_all (b : UInt8) : isL (b.toNat : Int) = allL.contains b := by
  have := byte_all (P := fun b => isL (b.toNat : Int) == allL.contains b) (by decide +kernel) b
  simpa using this
theorem nameB_all (b : UInt8) : nameB (b.toNat : Int) = (lowL ++ [45]).contains b := by
  have := byte_all (P := fun b => nameB (b.toNat : Int) == (lowL ++ [45]).contains b) (by decide +kernel) b
  simpa using this
theorem key_all (b : UInt8) : wordB keyO (b.toNat : Int) = (allL ++ [45, 95, 46, 47]).contains b := by
  have := byte_all (P := fun b => wordB keyO (b.toNat : Int) == (allL ++ [45, 95, 46, 47]).contains b) (by decide +kernel) b
  simpa using this
theorem val_all (b : UInt8) : wordB valO (b.toNat : Int) = (allL ++ [45, 95, 46]).contains b := by
  have := byte_all (P := fun b => wordB valO (b.toNat : Int) == (allL ++ [45, 95, 46]).contains b) (by decide +kernel) b
  simpa using this
theorem at_get (s : ByteArray) (i : Nat) (h : i < s.data.toList.length) : at_ s i = (s.data.toList[i].toNat : Int) := by
  unfold at_
  rw [List.getD_eq_getElem?_getD, List.getElem?_eq_getElem h]
  rfl
theorem size_l (s : ByteArray) : s.data.toList.length = s.size := by rw [Array.length_toList]; rfl
theorem head_at {s : ByteArray} (h : 1 ≤ s.size) : ∃ b, s.data.toList.head? = some b ∧ at_ s 0 = (b.toNat : Int) ∧ b ∈ s.data.toList := by
  have hl : 0 < s.data.toList.length := by rw [size_l]; omega
  exact ⟨s.data.toList[0], by rw [List.head?_eq_getElem?, List.getElem?_eq_getElem hl], at_get s 0 hl, List.getElem_mem hl⟩
theorem last_at {s : ByteArray} (h : 1 ≤ s.size) : ∃ b, s.data.toList.getLast? = some b ∧ at_ s (s.size - 1) = (b.toNat : Int) ∧ b ∈ s.data.toList := by
  have hl : s.size - 1 < s.data.toList.length := by rw [size_l]; omega
  exact ⟨s.data.toList[s.size - 1], by rw [List.getLast?_eq_getElem?, size_l, List.getElem?_eq_getElem hl], at_get s _ hl, List.getElem_mem hl⟩
theorem all_at {s : ByteArray} {p : Int → Bool} : (∀ i, i < s.size → p (at_ s i) = true) ↔ ∀ b ∈ s.data.toList, p (b.toNat : Int) = true := by
  constructor
  · intro h b hb
    obtain ⟨i, hi, rfl⟩ := List.getElem_of_mem hb
    rw [← at_get s i hi]
    exact h i (by rwa [size_l] at hi)
  · intro h i hi
    have hl : i < s.data.toList.length := by rwa [size_l]
    rw [at_get s i hl]
    exact h _ (List.getElem_mem hl)
theorem name_iff (s : ByteArray) : NameP s ↔ IdP 20 lowL [45] s := by
  constructor
  · rintro ⟨h1, h2, h3, h4, h5⟩
    obtain ⟨a, ha, ha2, _⟩ := head_at h1
    obtain ⟨z, hz, hz2, _⟩ := last_at h1
    rw [ha2] at h3
    rw [hz2] at h4
    refine ⟨h1, h2, (trim_same _ _).2 ⟨fun b hb => ?_, fun b hb => ?_⟩, (trim_none _ _).2 fun b hb => ?_⟩
    · obtain rfl : a = b := by rw [ha] at hb; exact Option.some.inj hb
      simp only [List.contains_cons, List.contains_nil, Bool.or_false, beq_eq_false_iff_ne]
      rintro rfl; exact h3 rfl
    · obtain rfl : z = b := by rw [hz] at hb; exact Option.some.inj hb
      simp only [List.contains_cons, List.contains_nil, Bool.or_false, beq_eq_false_iff_ne]
      rintro rfl; exact h4 rfl
    · rw [← nameB_all]; exact all_at.1 h5 b hb
  · rintro ⟨h1, h2, h3, h4⟩
    obtain ⟨h5, h6⟩ := (trim_same _ _).1 h3
    have h7 := (trim_none _ _).1 h4
    obtain ⟨a, ha, ha2, _⟩ := head_at h1
    obtain ⟨z, hz, hz2, _⟩ := last_at h1
    have h5 := h5 a ha
    have h6 := h6 z hz
    simp only [List.contains_cons, List.contains_nil, Bool.or_false, beq_eq_false_iff_ne] at h5 h6
    refine ⟨h1, h2, fun e => h5 ?_, fun e => h6 ?_, all_at.2 fun b hb => by rw [nameB_all]; exact h7 b hb⟩
    · rw [ha2] at e
      apply UInt8.toNat_inj.1
      have : (45 : UInt8).toNat = 45 := rfl
      omega
    · rw [hz2] at e
      apply UInt8.toNat_inj.1
      have : (45 : UInt8).toNat = 45 := rfl
      omega
theorem contains_app (a b : List UInt8) (x : UInt8) : (a ++ b).contains x = (a.contains x || b.contains x) := by
  rw [Bool.eq_iff_iff]; simp
/-- Words with o's bytes within, by the two trims. -/
theorem word_iff (o : ByteArray) (ms : List UInt8) (hall : ∀ b : UInt8, wordB o (b.toNat : Int) = (allL ++ ms).contains b) (hdis : ∀ b : UInt8, isL (b.toNat : Int) = true → ms.contains b = false) (most : Nat) (s : ByteArray) : (s.size ≤ most ∧ WordP o s) ↔ IdP most allL ms s := by
  constructor
  · rintro ⟨h2, h1, h3, h4, h5⟩
    obtain ⟨a, ha, ha2, _⟩ := head_at h1
    obtain ⟨z, hz, hz2, _⟩ := last_at h1
    rw [ha2] at h3
    rw [hz2] at h4
    refine ⟨h1, h2, (trim_same _ _).2 ⟨fun b hb => ?_, fun b hb => ?_⟩, (trim_none _ _).2 fun b hb => ?_⟩
    · obtain rfl : a = b := by rw [ha] at hb; exact Option.some.inj hb
      exact hdis _ h3
    · obtain rfl : z = b := by rw [hz] at hb; exact Option.some.inj hb
      exact hdis _ h4
    · rw [← hall]; exact all_at.1 h5 b hb
  · rintro ⟨h1, h2, h3, h4⟩
    obtain ⟨h5, h6⟩ := (trim_same _ _).1 h3
    have h7 := (trim_none _ _).1 h4
    obtain ⟨a, ha, ha2, ham⟩ := head_at h1
    obtain ⟨z, hz, hz2, hzm⟩ := last_at h1
    have h5 := h5 a ha
    have h6 := h6 z hz
    refine ⟨h2, h1, ?_, ?_, all_at.2 fun b hb => by rw [hall]; exact h7 b hb⟩
    · have := h7 a ham
      rw [contains_app, h5, Bool.or_false] at this
      rw [ha2, isL_all]; exact this
    · have := h7 z hzm
      rw [contains_app, h6, Bool.or_false] at this
      rw [hz2, isL_all]; exact this
theorem dis_key (b : UInt8) : isL (b.toNat : Int) = true → ([45, 95, 46, 47] : List UInt8).contains b = false := by
  have := byte_all (P := fun b => !isL (b.toNat : Int) || !([45, 95, 46, 47] : List UInt8).contains b) (by decide +kernel) b
  intro h
  rw [h] at this
  simpa using this
theorem dis_val (b : UInt8) : isL (b.toNat : Int) = true → ([45, 95, 46] : List UInt8).contains b = false := by
  have := byte_all (P := fun b => !isL (b.toNat : Int) || !([45, 95, 46] : List UInt8).contains b) (by decide +kernel) b
  intro h
  rw [h] at this
  simpa using this
theorem key_iff (s : ByteArray) : KeyP s ↔ IdP 30 allL [45, 95, 46, 47] s := word_iff keyO _ key_all dis_key 30 s
theorem val_iff (s : ByteArray) : ValP s ↔ s.size = 0 ∨ IdP 20 allL [45, 95, 46] s := by
  unfold ValP
  rw [word_iff valO _ val_all dis_val 20 s]
end Go.Proofs.YthpgbmglgmjjhaaDoor.lab
