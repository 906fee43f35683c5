/- Merged: CutM CutB SplB. -/
import Derived.Test.YthpgbmglgmjjhaaDoorBase
import Derived.Lib.Split
import Derived.Lib.CutLaws
namespace Go.Proofs.YthpgbmglgmjjhaaDoor.cut
open Go Go.RowKit
set_option linter.unusedVariables false

/-- Behind k bytes: where the open part begins, and the parts so far. The end of the text counts as the byte. -/
def cs (s : ByteArray) (c : Int) : Nat → Nat × List ByteArray
  | 0 => (0, [])
  | k + 1 => if k = s.size ∨ at_ s k = c then (k + 1, (cs s c k).2 ++ [s.extract (cs s c k).1 k]) else cs s c k
theorem cs_bd (s : ByteArray) (c : Int) (k : Nat) : (cs s c k).1 ≤ k ∧ (cs s c k).2.length ≤ k := by
  induction k with
  | zero => simp [cs]
  | succ k ih =>
    simp only [cs]
    split
    · refine ⟨Nat.le_refl _, ?_⟩
      simp; omega
    · omega
theorem cs_no {s : ByteArray} {c : Int} {k b : Nat} {l : List ByteArray} (h : cs s c k = (b, l)) (h1 : k < s.size) (h2 : at_ s k ≠ c) : cs s c (k + 1) = (b, l) := by
  simp only [cs]; rw [if_neg (by omega)]; exact h
theorem cs_add {s : ByteArray} {c : Int} {k b : Nat} {l : List ByteArray} (h : cs s c k = (b, l)) (h1 : k = s.size ∨ at_ s k = c) : cs s c (k + 1) = (k + 1, l ++ [s.extract b k]) := by
  simp only [cs]; rw [if_pos h1, h]
def cutF (s : ByteArray) (c : Int) : List ByteArray := (cs s c (s.size + 1)).2
theorem cut_le (s : ByteArray) (c : Int) : (cutF s c).length ≤ s.size + 1 := (cs_bd s c _).2
/-- No part is longer than the text. -/
theorem cs_sizes (s : ByteArray) (c : Int) (k : Nat) : ∀ x ∈ (cs s c k).2, x.size ≤ s.size := by
  induction k with
  | zero => intro x hx; simp [cs] at hx
  | succ k ih =>
    intro x hx
    simp only [cs] at hx
    split at hx
    · rcases List.mem_append.1 hx with h | h
      · exact ih x h
      · rw [List.mem_singleton] at h
        subst h
        rw [ByteArray.size_extract]
        omega
    · exact ih x hx
theorem cut_sizes (s : ByteArray) (c : Int) : ∀ x ∈ cutF s c, x.size ≤ s.size := cs_sizes s c _
/-- What a function that makes a list of strings hands back. -/
def OutS (e0 : TypeId) (w : World) (l : List ByteArray) (e : Ending) (w' : World) : Prop := ∃ v, e = .returned v ∧ w'.ownsRow w.heap.size e0 1 v l.length (scells l) ∧ Below w.heap.size w w'
end Go.Proofs.YthpgbmglgmjjhaaDoor.cut
namespace Go.Proofs.YthpgbmglgmjjhaaDoor.cut
open Go Go.RowKit
set_option linter.unusedVariables false

def splitL (c : Int) : List UInt8 → List (List UInt8)
  | [] => [[]]
  | b :: r => if (b.toNat : Int) = c then [] :: splitL c r else match splitL c r with
    | [] => [[b]]
    | h :: t => (b :: h) :: t
theorem split_no {c : Int} : ∀ (x : List UInt8), (∀ b ∈ x, (b.toNat : Int) ≠ c) → splitL c x = [x]
  | [], _ => rfl
  | b :: r, h => by
    rw [splitL, if_neg (h b List.mem_cons_self), split_no r fun y hy => h y (List.mem_cons_of_mem _ hy)]
theorem split_cons {c : Int} {b : UInt8} (hb : (b.toNat : Int) = c) : ∀ (x r : List UInt8), (∀ y ∈ x, (y.toNat : Int) ≠ c) → splitL c (x ++ b :: r) = x :: splitL c r
  | [], r, _ => by rw [List.nil_append, splitL, if_pos hb]
  | y :: x, r, h => by
    rw [List.cons_append, splitL, if_neg (h y List.mem_cons_self), split_cons hb x r fun z hz => h z (List.mem_cons_of_mem _ hz)]
def mk (x : List UInt8) : ByteArray := ⟨x.toArray⟩
theorem mk_ex (s : ByteArray) (a b : Nat) : s.extract a b = mk ((s.data.toList.drop a).take (b - a)) := by
  apply ByteArray.ext
  apply Array.ext'
  rw [ByteArray.data_extract, Array.toList_extract, List.extract_eq_take_drop]
  rfl
/-- What is behind k bytes: no byte of the kind since the open part began, and the rest still to be cut. -/
theorem cs_inv (s : ByteArray) (c : Int) : ∀ k, k ≤ s.size → (∀ i, (cs s c k).1 ≤ i → i < k → at_ s i ≠ c) ∧ (cs s c k).2 ++ (splitL c (s.data.toList.drop (cs s c k).1)).map mk = (splitL c s.data.toList).map mk := by
  intro k
  induction k with
  | zero => intro _; exact ⟨fun i _ h => by omega, by simp [cs]⟩
  | succ k ih =>
    intro hk
    obtain ⟨h1, h2⟩ := ih (by omega)
    have hb := (cs_bd s c k).1
    by_cases hc : at_ s k = c
    · have e : cs s c (k + 1) = (k + 1, (cs s c k).2 ++ [s.extract (cs s c k).1 k]) := cs_add rfl (.inr hc)
      rw [e]
      refine ⟨fun i h3 h4 => by simp only at h3; omega, ?_⟩
      have hlen : s.data.toList.length = s.size := by rw [Array.length_toList]; rfl
      have hkl : k < s.data.toList.length := by omega
      have hd : s.data.toList.drop (cs s c k).1 = (s.data.toList.drop (cs s c k).1).take (k - (cs s c k).1) ++ s.data.toList[k] :: s.data.toList.drop (k + 1) := by
        have h5 := (List.take_append_drop (k - (cs s c k).1) (s.data.toList.drop (cs s c k).1)).symm
        rw [List.drop_drop, show (cs s c k).1 + (k - (cs s c k).1) = k by omega, List.drop_eq_getElem_cons hkl] at h5
        exact h5
      have hat : ∀ i (h : i < s.data.toList.length), (s.data.toList[i].toNat : Int) = at_ s i := fun i h => by
        unfold at_
        rw [List.getD_eq_getElem?_getD, List.getElem?_eq_getElem h]
        rfl
      rw [hd, split_cons (by rw [hat k hkl]; exact hc) _ _ (fun y hy => by
        obtain ⟨i, hi, rfl⟩ := List.getElem_of_mem hy
        rw [List.length_take, List.length_drop] at hi
        rw [List.getElem_take, List.getElem_drop, hat]
        exact h1 _ (by omega) (by omega)), List.map_cons] at h2
      rw [← h2, mk_ex]
      simp
    · rw [show cs s c (k + 1) = cs s c k from cs_no rfl (by omega) hc]
      refine ⟨fun i h3 h4 => ?_, h2⟩
      by_cases e : i = k
      · subst e; exact hc
      · exact h1 i h3 (by omega)
theorem cut_is (s : ByteArray) (c : Int) : cutF s c = (splitL c s.data.toList).map mk := by
  obtain ⟨h1, h2⟩ := cs_inv s c s.size (Nat.le_refl _)
  have hb := (cs_bd s c s.size).1
  have hlen : s.data.toList.length = s.size := by rw [Array.length_toList]; rfl
  unfold cutF
  rw [show cs s c (s.size + 1) = (s.size + 1, (cs s c s.size).2 ++ [s.extract (cs s c s.size).1 s.size]) from cs_add rfl (.inl rfl)]
  rw [split_no (s.data.toList.drop (cs s c s.size).1) (fun y hy => by
    obtain ⟨i, hi, rfl⟩ := List.getElem_of_mem hy
    rw [List.length_drop] at hi
    rw [List.getElem_drop]
    have h3 := h1 ((cs s c s.size).1 + i) (by omega) (by omega)
    unfold at_ at h3
    rw [List.getD_eq_getElem?_getD, List.getElem?_eq_getElem (by omega)] at h3
    exact h3)] at h2
  rw [← h2, mk_ex, List.take_of_length_le (by rw [List.length_drop]; omega)]
  rfl
end Go.Proofs.YthpgbmglgmjjhaaDoor.cut
namespace Go.Proofs.YthpgbmglgmjjhaaDoor.cut
open Go Go.RowKit
set_option linter.unusedVariables false

theorem index_one (c : UInt8) : ∀ l : List UInt8, (Lib.index l [c] = -1 ∧ ∀ b ∈ l, b ≠ c) ∨ (∃ i : Nat, Lib.index l [c] = i ∧ i < l.length ∧ l = l.take i ++ c :: l.drop (i + 1) ∧ ∀ b ∈ l.take i, b ≠ c)
  | [] => .inl ⟨by simp [Lib.index], by simp⟩
  | b :: r => by
    by_cases h : b = c
    · subst h
      exact .inr ⟨0, by simp [Lib.index, List.isPrefixOf], by simp, by simp, by simp⟩
    · have hp : ([c] : List UInt8).isPrefixOf (b :: r) = false := by
        simp only [List.isPrefixOf, Bool.and_true, beq_eq_false_iff_ne]
        exact fun e => h e.symm
      rcases index_one c r with ⟨h1, h2⟩ | ⟨i, h1, h2, h3, h4⟩
      · refine .inl ⟨?_, ?_⟩
        · unfold Lib.index; rw [hp, h1]; rfl
        · intro x hx
          rcases List.mem_cons.1 hx with rfl | hx
          · exact h
          · exact h2 x hx
      · refine .inr ⟨i + 1, ?_, by simp; omega, ?_, ?_⟩
        · unfold Lib.index; rw [hp, h1]
          have : ((i : Int) == -1) = false := by rw [beq_eq_false_iff_ne]; omega
          simp [this]
        · rw [List.take_succ_cons, List.cons_append, List.drop_succ_cons, ← h3]
        · intro x hx
          rw [List.take_succ_cons] at hx
          rcases List.mem_cons.1 hx with rfl | hx
          · exact h
          · exact h4 x hx
theorem ne_int {c : UInt8} {x : List UInt8} (h : ∀ b ∈ x, b ≠ c) : ∀ b ∈ x, (b.toNat : Int) ≠ (c.toNat : Int) := fun b hb e => h b hb (UInt8.toNat_inj.1 (by omega))
theorem splitK_one (c : UInt8) : ∀ (k : Nat) (l : List UInt8), Lib.count l [c] ≤ k → Lib.splitK [c] 0 k l = splitL (c.toNat : Int) l
  | 0, l, h => by
    rcases index_one c l with ⟨h1, h2⟩ | ⟨i, h1, h2, h3, h4⟩
    · rw [split_no l (ne_int h2)]; rfl
    · rw [Lib.count_hit (by simp) h1] at h; omega
  | k + 1, l, h => by
    rcases index_one c l with ⟨h1, h2⟩ | ⟨i, h1, h2, h3, h4⟩
    · rw [split_no l (ne_int h2), Lib.splitK, if_pos (by rw [h1]; rfl)]
    · rw [Lib.count_hit (by simp) h1] at h
      have hne : ¬ ((Lib.index l [c] == -1) = true) := by rw [h1]; intro e; have := beq_iff_eq.1 e; omega
      rw [Lib.splitK, if_neg hne, h1]
      have ih := splitK_one c k (l.drop (i + 1)) (by simp at h; omega)
      have e2 : splitL (c.toNat : Int) l = l.take i :: splitL (c.toNat : Int) (l.drop (i + 1)) := by
        have e3 := split_cons (c := (c.toNat : Int)) (b := c) rfl (l.take i) (l.drop (i + 1)) (ne_int h4)
        rw [← h3] at e3
        exact e3
      rw [e2]
      simp only [Int.toNat_natCast, Nat.add_zero, List.length_cons, List.length_nil, Nat.zero_add]
      rw [ih]
theorem splitK_len (c : UInt8) : ∀ (k : Nat) (l : List UInt8), Lib.count l [c] = k → (Lib.splitK [c] 0 k l).length = k + 1
  | 0, l, h => rfl
  | k + 1, l, h => by
    rcases index_one c l with ⟨h1, h2⟩ | ⟨i, h1, h2, h3, h4⟩
    · rw [Lib.count_miss h1] at h; omega
    · rw [Lib.count_hit (by simp) h1] at h
      have hne : ¬ ((Lib.index l [c] == -1) = true) := by rw [h1]; intro e; have := beq_iff_eq.1 e; omega
      rw [Lib.splitK, if_neg hne, h1]
      have ih := splitK_len c k (l.drop (i + 1)) (by simp at h; omega)
      simp only [Int.toNat_natCast, List.length_cons, List.length_nil, Nat.zero_add]
      rw [ih]
theorem split_one (c : UInt8) (l : List UInt8) : Lib.split l [c] = splitL (c.toNat : Int) l := splitK_one c _ l (Nat.le_refl _)
/-- What strings.Cut gives at one byte: where it stands, the parts before and behind its first place. -/
theorem cut_one (c : UInt8) (l : List UInt8) : ((∀ b ∈ l, b ≠ c) ∧ Lib.cut l [c] = (l, [], false)) ∨ ∃ x y, l = x ++ c :: y ∧ (∀ b ∈ x, b ≠ c) ∧ Lib.cut l [c] = (x, y, true) := by
  rcases index_one c l with ⟨h1, h2⟩ | ⟨i, h1, h2, h3, h4⟩
  · left
    refine ⟨h2, ?_⟩
    unfold Lib.cut
    rw [h1, if_neg (by omega)]
  · right
    refine ⟨l.take i, l.drop (i + 1), h3, h4, ?_⟩
    unfold Lib.cut
    rw [h1, if_pos (by omega)]
    simp
/-- A text of one more byte of the kind is cut in more than one part. -/
theorem split_len {c : Int} : ∀ (l : List UInt8) (b : UInt8), b ∈ l → (b.toNat : Int) = c → 2 ≤ (splitL c l).length
  | [], b, h, _ => by cases h
  | a :: r, b, h, hb => by
    have hpos : ∀ l : List UInt8, 0 < (splitL c l).length := by
      intro l
      cases l with
      | nil => simp [splitL]
      | cons x y =>
        rw [splitL]
        split
        · simp
        · split <;> simp
    rw [splitL]
    by_cases ha : (a.toNat : Int) = c
    · rw [if_pos ha]
      have := hpos r
      simp; omega
    · rw [if_neg ha]
      rcases List.mem_cons.1 h with rfl | h
      · exact absurd hb ha
      · have ih := split_len r b h hb
        cases hs : splitL c r with
        | nil => rw [hs] at ih; simp at ih
        | cons x y => rw [hs] at ih; simpa using ih
end Go.Proofs.YthpgbmglgmjjhaaDoor.cut
