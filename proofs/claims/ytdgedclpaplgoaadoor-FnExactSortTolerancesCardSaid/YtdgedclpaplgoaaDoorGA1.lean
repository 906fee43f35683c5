/- Merged: CutB DedupM TrimP IdI. -/
import Derived.Test.YtdgedclpaplgoaaDoorGA0
import Derived.Lib.SlTrimSet
import Derived.Test.YtdgedclpaplgoaaDoorShelf
import Derived.Shelf.Strings.SlTrimAscii
import Derived.ProofKit
namespace Go.Proofs.YtdgedclpaplgoaaDoor.cut
open Go Go.RowKit
set_option linter.unusedVariables false

def splitL (c : Int) : List UInt8 → List (List UInt8)
  | [] => [[]]
  | b :: r => if (b.toNat : Int) = c then [] :: splitL c r else match splitL c r with
    | [] => [[b]]
    | h :: t => (b :: h) :: t
theorem split_no {c : Int} : ∀ (x : List UInt8), (∀ b ∈ x, (b.toNat : Int) ≠ c) → splitL c x = [x]
  | [], _ => rfl
  | b :: r, h => by
    rw [splitL, if_neg (h b List.mem_cons_self), split_no r fun y hy => h y (List.mem_cons_of_mem _ hy)]
theorem split_cons {c : Int} {b : UInt8} (hb : (b.toNat : Int) = c) : ∀ (x r : List UInt8), (∀ y ∈ x, (y.toNat : Int) ≠ c) → splitL c (x ++ b :: r) = x :: splitL c r
  | [], r, _ => by rw [List.nil_append, splitL, if_pos hb]
  | y :: x, r, h => by
    rw [List.cons_append, splitL, if_neg (h y List.mem_cons_self), split_cons hb x r fun z hz => h z (List.mem_cons_of_mem _ hz)]
def mk (x : List UInt8) : ByteArray := ⟨x.toArray⟩
theorem mk_ex (s : ByteArray) (a b : Nat) : s.extract a b = mk ((s.data.toList.drop a).take (b - a)) := by
  apply ByteArray.ext
  apply Array.ext'
  rw [ByteArray.data_extract, Array.toList_extract, List.extract_eq_take_drop]
  rfl
/-- What is behind k bytes: no byte of the kind since the open part began, and the rest still to be cut. -/
theorem cs_inv (s : ByteArray) (c : Int) : ∀ k, k ≤ s.size → (∀ i, (cs s c k).1 ≤ i → i < k → at_ s i ≠ c) ∧ (cs s c k).2 ++ (splitL c (s.data.toList.drop (cs s c k).1)).map mk = (splitL c s.data.toList).map mk := by
  intro k
  induction k with
  | zero => intro _; exact ⟨fun i _ h => by omega, by simp [cs]⟩
  | succ k ih =>
    intro hk
    obtain ⟨h1, h2⟩ := ih (by omega)
    have hb := (cs_bd s c k).1
    by_cases hc : at_ s k = c
    · have e : cs s c (k + 1) = (k + 1, (cs s c k).2 ++ [s.extract (cs s c k).1 k]) := cs_add rfl (.inr hc)
      rw [e]
      refine ⟨fun i h3 h4 => by simp only at h3; omega, ?_⟩
      have hlen : s.data.toList.length = s.size := by rw [Array.length_toList]; rfl
      have hkl : k < s.data.toList.length := by omega
      have hd : s.data.toList.drop (cs s c k).1 = (s.data.toList.drop (cs s c k).1).take (k - (cs s c k).1) ++ s.data.toList[k] :: s.data.toList.drop (k + 1) := by
        have h5 := (List.take_append_drop (k - (cs s c k).1) (s.data.toList.drop (cs s c k).1)).symm
        rw [List.drop_drop, show (cs s c k).1 + (k - (cs s c k).1) = k by omega, List.drop_eq_getElem_cons hkl] at h5
        exact h5
      have hat : ∀ i (h : i < s.data.toList.length), (s.data.toList[i].toNat : Int) = at_ s i := fun i h => by
        unfold at_
        rw [List.getD_eq_getElem?_getD, List.getElem?_eq_getElem h]
        rfl
      rw [hd, split_cons (by rw [hat k hkl]; exact hc) _ _ (fun y hy => by
        obtain ⟨i, hi, rfl⟩ := List.getElem_of_mem hy
        rw [List.length_take, List.length_drop] at hi
        rw [List.getElem_take, List.getElem_drop, hat]
        exact h1 _ (by omega) (by omega)), List.map_cons] at h2
      rw [← h2, mk_ex]
      simp
    · rw [show cs s c (k + 1) = cs s c k from cs_no rfl (by omega) hc]
      refine ⟨fun i h3 h4 => ?_, h2⟩
      by_cases e : i = k
      · subst e; exact hc
      · exact h1 i h3 (by omega)
theorem cut_is (s : ByteArray) (c : Int) : cutF s c = (splitL c s.data.toList).map mk := by
  obtain ⟨h1, h2⟩ := cs_inv s c s.size (Nat.le_refl _)
  have hb := (cs_bd s c s.size).1
  have hlen : s.data.toList.length = s.size := by rw [Array.length_toList]; rfl
  unfold cutF
  rw [show cs s c (s.size + 1) = (s.size + 1, (cs s c s.size).2 ++ [s.extract (cs s c s.size).1 s.size]) from cs_add rfl (.inl rfl)]
  rw [split_no (s.data.toList.drop (cs s c s.size).1) (fun y hy => by
    obtain ⟨i, hi, rfl⟩ := List.getElem_of_mem hy
    rw [List.length_drop] at hi
    rw [List.getElem_drop]
    have h3 := h1 ((cs s c s.size).1 + i) (by omega) (by omega)
    unfold at_ at h3
    rw [List.getD_eq_getElem?_getD, List.getElem?_eq_getElem (by omega)] at h3
    exact h3)] at h2
  rw [← h2, mk_ex, List.take_of_length_le (by rw [List.length_drop]; omega)]
  rfl
end Go.Proofs.YtdgedclpaplgoaaDoor.cut
namespace Go.Proofs.YtdgedclpaplgoaaDoor.dedup
open Go Go.RowKit
set_option linter.unusedVariables false
variable {α : Type}

def insD (lt : α → α → Bool) (x : α) : List α → List α
  | [] => [x]
  | y :: r => if lt y x = true then y :: insD lt x r else if lt x y = true then x :: y :: r else y :: r
/-- The elements in order, each once. -/
def dsort (lt : α → α → Bool) (l : List α) : List α := l.foldl (fun acc x => insD lt x acc) []
theorem dsort_snoc (lt : α → α → Bool) (l : List α) (x : α) : dsort lt (l ++ [x]) = insD lt x (dsort lt l) := by
  unfold dsort
  rw [List.foldl_append]
  rfl
theorem insD_stay {lt : α → α → Bool} {x : α} : ∀ {S : List α} {k : Nat} (hk : k < S.length), (∀ q (h : q < k), lt (S[q]'(by omega)) x = true) → lt S[k] x = false → lt x S[k] = false → insD lt x S = S
  | [], _, hk, _, _, _ => by simp at hk
  | y :: r, 0, _, _, h2, h3 => by
    simp only [List.getElem_cons_zero] at h2 h3
    rw [insD, if_neg (by rw [h2]; simp), if_neg (by rw [h3]; simp)]
  | y :: r, k + 1, hk, h1, h2, h3 => by
    have h0 := h1 0 (by omega)
    simp only [List.getElem_cons_zero] at h0
    rw [insD, if_pos h0, insD_stay (S := r) (k := k) (by simpa using hk) (fun q h => by have := h1 (q + 1) (by omega); simpa using this) (by simpa using h2) (by simpa using h3)]
theorem insD_put {lt : α → α → Bool} {x : α} : ∀ {S : List α} {k : Nat} (hk : k ≤ S.length), (∀ q (h : q < k), lt (S[q]'(by omega)) x = true) → (∀ h : k < S.length, lt S[k] x = false ∧ lt x S[k] = true) → insD lt x S = S.take k ++ x :: S.drop k
  | [], k, hk, _, _ => by
    have : k = 0 := by simpa using hk
    subst this
    rfl
  | y :: r, 0, _, _, h2 => by
    obtain ⟨h2, h3⟩ := h2 (by simp)
    simp only [List.getElem_cons_zero] at h2 h3
    rw [insD, if_neg (by rw [h2]; simp), if_pos h3]
    rfl
  | y :: r, k + 1, hk, h1, h2 => by
    have h0 := h1 0 (by omega)
    simp only [List.getElem_cons_zero] at h0
    rw [insD, if_pos h0, insD_put (S := r) (k := k) (by simpa using hk) (fun q h => by have := h1 (q + 1) (by omega); simpa using this) (fun h => by have := h2 (by simpa using h); simpa using this)]
    rfl
theorem insD_length (lt : α → α → Bool) (x : α) : ∀ S : List α, (insD lt x S).length ≤ S.length + 1
  | [] => Nat.le_refl _
  | y :: r => by
    have ih := insD_length lt x r
    rw [insD]
    split
    · simp only [List.length_cons]; omega
    split <;> simp
theorem insD_sub (lt : α → α → Bool) (x : α) : ∀ (S : List α) (y : α), y ∈ insD lt x S → y = x ∨ y ∈ S
  | [], y, h => by left; simpa [insD] using h
  | z :: r, y, h => by
    rw [insD] at h
    split at h
    · rcases List.mem_cons.1 h with rfl | h
      · exact .inr List.mem_cons_self
      · exact (insD_sub lt x r y h).imp id (List.mem_cons_of_mem _)
    split at h
    · rcases List.mem_cons.1 h with rfl | h
      · exact .inl rfl
      · exact .inr h
    · exact .inr h
theorem dsort_length (lt : α → α → Bool) (l : List α) : (dsort lt l).length ≤ l.length := by
  suffices h : ∀ (l acc : List α), (l.foldl (fun acc x => insD lt x acc) acc).length ≤ acc.length + l.length by simpa [dsort] using h l []
  intro l
  induction l with
  | nil => intro acc; simp
  | cons x l ih =>
    intro acc
    have h1 := ih (insD lt x acc)
    have h2 := insD_length lt x acc
    simp only [List.foldl_cons, List.length_cons]
    omega
theorem dsort_sub (lt : α → α → Bool) (l : List α) : ∀ y ∈ dsort lt l, y ∈ l := by
  suffices h : ∀ (l acc : List α) (y : α), y ∈ l.foldl (fun acc x => insD lt x acc) acc → y ∈ acc ∨ y ∈ l from fun y hy => by simpa using h l [] y hy
  intro l
  induction l with
  | nil => intro acc y h; exact .inl h
  | cons x l ih =>
    intro acc y h
    rcases ih _ _ h with h | h
    · rcases insD_sub lt x acc y h with rfl | h
      · exact .inr List.mem_cons_self
      · exact .inl h
    · exact .inr (List.mem_cons_of_mem _ h)
/-- An order in which of two that differ one is less. -/
structure Ord (lt : α → α → Bool) : Prop where
  irr : ∀ a, lt a a = false
  tot : ∀ a b, lt a b = false → lt b a = false → a = b
  tr : ∀ a b c, lt a b = true → lt b c = true → lt a c = true
def Asc (lt : α → α → Bool) (l : List α) : Prop := l.Pairwise fun a b => lt a b = true
theorem insD_has {lt : α → α → Bool} (o : Ord lt) (x : α) : ∀ S : List α, x ∈ insD lt x S ∧ ∀ y ∈ S, y ∈ insD lt x S
  | [] => ⟨by simp [insD], fun y h => by cases h⟩
  | z :: r => by
    obtain ⟨h1, h2⟩ := insD_has o x r
    rw [insD]
    split
    · refine ⟨List.mem_cons_of_mem _ h1, fun y hy => ?_⟩
      rcases List.mem_cons.1 hy with rfl | hy
      · exact List.mem_cons_self
      · exact List.mem_cons_of_mem _ (h2 y hy)
    split
    · exact ⟨List.mem_cons_self, fun y hy => List.mem_cons_of_mem _ hy⟩
    · rename_i a b
      have : z = x := o.tot _ _ (by simpa using a) (by simpa using b)
      subst this
      exact ⟨List.mem_cons_self, fun y hy => hy⟩
theorem insD_asc {lt : α → α → Bool} (o : Ord lt) (x : α) : ∀ S : List α, Asc lt S → Asc lt (insD lt x S)
  | [], _ => by simp [insD, Asc]
  | z :: r, h => by
    obtain ⟨h1, h2⟩ := List.pairwise_cons.1 h
    rw [insD]
    split
    · rename_i a
      refine List.pairwise_cons.2 ⟨fun y hy => ?_, insD_asc o x r h2⟩
      rcases insD_sub lt x r y hy with rfl | hy
      · exact a
      · exact h1 y hy
    split
    · rename_i a b
      refine List.pairwise_cons.2 ⟨fun y hy => ?_, h⟩
      rcases List.mem_cons.1 hy with rfl | hy
      · exact b
      · exact o.tr _ _ _ b (h1 y hy)
    · exact h
theorem dsort_all {lt : α → α → Bool} (o : Ord lt) (l : List α) : Asc lt (dsort lt l) ∧ ∀ y, y ∈ dsort lt l ↔ y ∈ l := by
  refine ⟨?_, fun y => ⟨dsort_sub lt l y, ?_⟩⟩
  · suffices h : ∀ (l acc : List α), Asc lt acc → Asc lt (l.foldl (fun acc x => insD lt x acc) acc) from h l [] List.Pairwise.nil
    intro l
    induction l with
    | nil => intro acc h; exact h
    | cons x l ih => intro acc h; exact ih _ (insD_asc o x acc h)
  · suffices h : ∀ (l acc : List α) (y : α), y ∈ acc ∨ y ∈ l → y ∈ l.foldl (fun acc x => insD lt x acc) acc from fun hy => h l [] y (.inr hy)
    intro l
    induction l with
    | nil => intro acc y h; exact h.elim id (fun h => by cases h)
    | cons x l ih =>
      intro acc y h
      refine ih _ y ?_
      obtain ⟨h1, h2⟩ := insD_has o x acc
      rcases h with h | h
      · exact .inl (h2 y h)
      · rcases List.mem_cons.1 h with rfl | h
        · exact .inl h1
        · exact .inr h
theorem asc_same {lt : α → α → Bool} (o : Ord lt) : ∀ a b : List α, Asc lt a → Asc lt b → (∀ y, y ∈ a ↔ y ∈ b) → a = b
  | [], [], _, _, _ => rfl
  | [], y :: b, _, _, h => absurd ((h y).2 List.mem_cons_self) (by simp)
  | x :: a, [], _, _, h => absurd ((h x).1 List.mem_cons_self) (by simp)
  | x :: a, y :: b, ha, hb, h => by
    obtain ⟨ha1, ha2⟩ := List.pairwise_cons.1 ha
    obtain ⟨hb1, hb2⟩ := List.pairwise_cons.1 hb
    have no : ∀ u v, lt u v = true → lt v u = true → False := fun u v h1 h2 => by
      have := o.tr _ _ _ h1 h2
      rw [o.irr] at this
      cases this
    have e : x = y := by
      rcases List.mem_cons.1 ((h x).1 List.mem_cons_self) with e | h1
      · exact e
      rcases List.mem_cons.1 ((h y).2 List.mem_cons_self) with e | h2
      · exact e.symm
      exact (no _ _ (ha1 _ h2) (hb1 _ h1)).elim
    subst e
    rw [asc_same o a b ha2 hb2 fun z => ?_]
    constructor
    · intro hz
      rcases List.mem_cons.1 ((h z).1 (List.mem_cons_of_mem _ hz)) with rfl | h1
      · have := ha1 _ hz
        rw [o.irr] at this
        cases this
      · exact h1
    · intro hz
      rcases List.mem_cons.1 ((h z).2 (List.mem_cons_of_mem _ hz)) with rfl | h1
      · have := hb1 _ hz
        rw [o.irr] at this
        cases this
      · exact h1
/-- Whoever puts the elements in order, each once, gives this list. -/
theorem dsort_is {lt : α → α → Bool} (o : Ord lt) (l r : List α) (h1 : Asc lt r) (h2 : ∀ y, y ∈ r ↔ y ∈ l) : r = dsort lt l :=
  asc_same o _ _ h1 (dsort_all o l).1 fun y => (h2 y).trans ((dsort_all o l).2 y).symm
/-- A list in order stands as it is. -/
theorem dsort_asc {lt : α → α → Bool} (o : Ord lt) (l : List α) (h : Asc lt l) : dsort lt l = l := (dsort_is o l l h fun y => Iff.rfl).symm
end Go.Proofs.YtdgedclpaplgoaaDoor.dedup
namespace Go.Proofs.YtdgedclpaplgoaaDoor.lab
open Go Go.RowKit
set_option linter.unusedVariables false

theorem drop_same {p : UInt8 → Bool} (l : List UInt8) : (l.dropWhile p = l) ↔ ∀ b, l.head? = some b → p b = false := by
  cases l with
  | nil => simp
  | cons a r =>
    rw [List.dropWhile_cons]
    by_cases h : p a = true
    · rw [if_pos h]
      constructor
      · intro e
        have h1 := congrArg List.length e
        have h2 := (List.dropWhile_suffix (p := p) (l := r)).length_le
        rw [List.length_cons] at h1
        omega
      · intro e
        have := e a rfl
        rw [this] at h; cases h
    · rw [if_neg h]
      simp at h
      simp [h]
theorem drop_none {p : UInt8 → Bool} (l : List UInt8) : (l.dropWhile p = []) ↔ ∀ b ∈ l, p b = true := by
  induction l with
  | nil => simp
  | cons a r ih =>
    rw [List.dropWhile_cons]
    by_cases h : p a = true
    · rw [if_pos h, ih]; simp [h]
    · rw [if_neg h]; simp [h]
theorem trim_same (l cs : List UInt8) : (Lib.trimS l cs = l) ↔ (∀ b, l.head? = some b → cs.contains b = false) ∧ (∀ b, l.getLast? = some b → cs.contains b = false) := by
  unfold Lib.trimS Lib.trimLeftS Lib.trimRightS
  constructor
  · intro h
    have h1 := congrArg List.length h
    have h2 := (List.dropWhile_suffix (p := (cs.contains ·)) (l := (l.reverse.dropWhile (cs.contains ·)).reverse)).length_le
    have h3 := (List.dropWhile_suffix (p := (cs.contains ·)) (l := l.reverse)).length_le
    rw [List.length_reverse] at h2 h3
    have h4 : l.reverse.dropWhile (cs.contains ·) = l.reverse := (List.dropWhile_suffix _).eq_of_length (by rw [List.length_reverse]; omega)
    rw [h4, List.reverse_reverse] at h
    refine ⟨(drop_same l).1 h, fun b hb => (drop_same l.reverse).1 h4 b (by rw [List.head?_reverse]; exact hb)⟩
  · rintro ⟨h1, h2⟩
    have h4 : l.reverse.dropWhile (cs.contains ·) = l.reverse := (drop_same l.reverse).2 fun b hb => h2 b (by rw [List.head?_reverse] at hb; exact hb)
    rw [h4, List.reverse_reverse]
    exact (drop_same l).2 h1
theorem trim_none (l cs : List UInt8) : (Lib.trimS l cs = []) ↔ ∀ b ∈ l, cs.contains b = true := by
  unfold Lib.trimS Lib.trimLeftS Lib.trimRightS
  rw [drop_none]
  constructor
  · intro h
    by_cases e : l.reverse.dropWhile (cs.contains ·) = []
    · intro b hb
      exact (drop_none l.reverse).1 e b (List.mem_reverse.2 hb)
    · exfalso
      have hl := List.head?_dropWhile_not (cs.contains ·) l.reverse
      cases hd : l.reverse.dropWhile (cs.contains ·) with
      | nil => exact e hd
      | cons a r =>
        rw [hd] at hl h
        have := h a (by simp)
        simp at hl
        simp [hl] at this
  · intro h b hb
    refine h b ?_
    rw [List.mem_reverse] at hb
    exact List.mem_reverse.1 ((List.dropWhile_suffix _).subset hb)
/-- As impl tells a word. -/
def IdP (most : Nat) (ls ms : List UInt8) (s : ByteArray) : Prop := 1 ≤ s.size ∧ s.size ≤ most ∧ Lib.trimS s.data.toList ms = s.data.toList ∧ Lib.trimS s.data.toList (ls ++ ms) = []
def lowL : List UInt8 := [97, 98, 99, 100, 101, 102, 103, 104, 105, 106, 107, 108, 109, 110, 111, 112, 113, 114, 115, 116, 117, 118, 119, 120, 121, 122, 48, 49, 50, 51, 52, 53, 54, 55, 56, 57]
def allL : List UInt8 := [65, 66, 67, 68, 69, 70, 71, 72, 73, 74, 75, 76, 77, 78, 79, 80, 81, 82, 83, 84, 85, 86, 87, 88, 89, 90] ++ lowL
theorem byte_all {P : UInt8 → Bool} (h : ∀ n, n < 256 → P (UInt8.ofNat n) = true) (b : UInt8) : P b = true := by
  have := h b.toNat b.toNat_lt
  rwa [UInt8.ofNat_toNat] at this
theorem isL_all (b : UInt8) : isL (b.toNat : Int) = allL.contains b := by
  have := byte_all (P := fun b => isL (b.toNat : Int) == allL.contains b) (by decide +kernel) b
  simpa using this
theorem nameB_all (b : UInt8) : nameB (b.toNat : Int) = (lowL ++ [45]).contains b := by
  have := byte_all (P := fun b => nameB (b.toNat : Int) == (lowL ++ [45]).contains b) (by decide +kernel) b
  simpa using this
theorem key_all (b : UInt8) : wordB keyO (b.toNat : Int) = (allL ++ [45, 95, 46, 47]).contains b := by
  have := byte_all (P := fun b => wordB keyO (b.toNat : Int) == (allL ++ [45, 95, 46, 47]).contains b) (by decide +kernel) b
  simpa using this
theorem val_all (b : UInt8) : wordB valO (b.toNat : Int) = (allL ++ [45, 95, 46]).contains b := by
  have := byte_all (P := fun b => wordB valO (b.toNat : Int) == (allL ++ [45, 95, 46]).contains b) (by decide +kernel) b
  simpa using this
theorem at_get (s : ByteArray) (i : Nat) (h : i < s.data.toList.length) : at_ s i = (s.data.toList[i].toNat : Int) := by
  unfold at_
  rw [List.getD_eq_getElem?_getD, List.getElem?_eq_getElem h]
  rfl
theorem size_l (s : ByteArray) : s.data.toList.length = s.size := by rw [Array.length_toList]; rfl
theorem head_at {s : ByteArray} (h : 1 ≤ s.size) : ∃ b, s.data.toList.head? = some b ∧ at_ s 0 = (b.toNat : Int) ∧ b ∈ s.data.toList := by
  have hl : 0 < s.data.toList.length := by rw [size_l]; omega
  exact ⟨s.data.toList[0], by rw [List.head?_eq_getElem?, List.getElem?_eq_getElem hl], at_get s 0 hl, List.getElem_mem hl⟩
theorem last_at {s : ByteArray} (h : 1 ≤ s.size) : ∃ b, s.data.toList.getLast? = some b ∧ at_ s (s.size - 1) = (b.toNat : Int) ∧ b ∈ s.data.toList := by
  have hl : s.size - 1 < s.data.toList.length := by rw [size_l]; omega
  exact ⟨s.data.toList[s.size - 1], by rw [List.getLast?_eq_getElem?, size_l, List.getElem?_eq_getElem hl], at_get s _ hl, List.getElem_mem hl⟩
theorem all_at {s : ByteArray} {p : Int → Bool} : (∀ i, i < s.size → p (at_ s i) = true) ↔ ∀ b ∈ s.data.toList, p (b.toNat : Int) = true := by
  constructor
  · intro h b hb
    obtain ⟨i, hi, rfl⟩ := List.getElem_of_mem hb
    rw [← at_get s i hi]
    exact h i (by rwa [size_l] at hi)
  · intro h i hi
    have hl : i < s.data.toList.length := by rwa [size_l]
    rw [at_get s i hl]
    exact h _ (List.getElem_mem hl)
theorem name_iff (s : ByteArray) : NameP s ↔ IdP 20 lowL [45] s := by
  constructor
  · rintro ⟨h1, h2, h3, h4, h5⟩
    obtain ⟨a, ha, ha2, _⟩ := head_at h1
    obtain ⟨z, hz, hz2, _⟩ := last_at h1
    rw [ha2] at h3
    rw [hz2] at h4
    refine ⟨h1, h2, (trim_same _ _).2 ⟨fun b hb => ?_, fun b hb => ?_⟩, (trim_none _ _).2 fun b hb => ?_⟩
    · obtain rfl : a = b := by rw [ha] at hb; exact Option.some.inj hb
      simp only [List.contains_cons, List.contains_nil, Bool.or_false, beq_eq_false_iff_ne]
      rintro rfl; exact h3 rfl
    · obtain rfl : z = b := by rw [hz] at hb; exact Option.some.inj hb
      simp only [List.contains_cons, List.contains_nil, Bool.or_false, beq_eq_false_iff_ne]
      rintro rfl; exact h4 rfl
    · rw [← nameB_all]; exact all_at.1 h5 b hb
  · rintro ⟨h1, h2, h3, h4⟩
    obtain ⟨h5, h6⟩ := (trim_same _ _).1 h3
    have h7 := (trim_none _ _).1 h4
    obtain ⟨a, ha, ha2, _⟩ := head_at h1
    obtain ⟨z, hz, hz2, _⟩ := last_at h1
    have h5 := h5 a ha
    have h6 := h6 z hz
    simp only [List.contains_cons, List.contains_nil, Bool.or_false, beq_eq_false_iff_ne] at h5 h6
    refine ⟨h1, h2, fun e => h5 ?_, fun e => h6 ?_, all_at.2 fun b hb => by rw [nameB_all]; exact h7 b hb⟩
    · rw [ha2] at e
      apply UInt8.toNat_inj.1
      have : (45 : UInt8).toNat = 45 := rfl
      omega
    · rw [hz2] at e
      apply UInt8.toNat_inj.1
      have : (45 : UInt8).toNat = 45 := rfl
      omega
theorem contains_app (a b : List UInt8) (x : UInt8) : (a ++ b).contains x = (a.contains x || b.contains x) := by
  rw [Bool.eq_iff_iff]; simp
/-- Words with o's bytes within, by the two trims. -/
theorem word_iff (o : ByteArray) (ms : List UInt8) (hall : ∀ b : UInt8, wordB o (b.toNat : Int) = (allL ++ ms).contains b) (hdis : ∀ b : UInt8, isL (b.toNat : Int) = true → ms.contains b = false) (most : Nat) (s : ByteArray) : (s.size ≤ most ∧ WordP o s) ↔ IdP most allL ms s := by
  constructor
  · rintro ⟨h2, h1, h3, h4, h5⟩
    obtain ⟨a, ha, ha2, _⟩ := head_at h1
    obtain ⟨z, hz, hz2, _⟩ := last_at h1
    rw [ha2] at h3
    rw [hz2] at h4
    refine ⟨h1, h2, (trim_same _ _).2 ⟨fun b hb => ?_, fun b hb => ?_⟩, (trim_none _ _).2 fun b hb => ?_⟩
    · obtain rfl : a = b := by rw [ha] at hb; exact Option.some.inj hb
      exact hdis _ h3
    · obtain rfl : z = b := by rw [hz] at hb; exact Option.some.inj hb
      exact hdis _ h4
    · rw [← hall]; exact all_at.1 h5 b hb
  · rintro ⟨h1, h2, h3, h4⟩
    obtain ⟨h5, h6⟩ := (trim_same _ _).1 h3
    have h7 := (trim_none _ _).1 h4
    obtain ⟨a, ha, ha2, ham⟩ := head_at h1
    obtain ⟨z, hz, hz2, hzm⟩ := last_at h1
    have h5 := h5 a ha
    have h6 := h6 z hz
    refine ⟨h2, h1, ?_, ?_, all_at.2 fun b hb => by rw [hall]; exact h7 b hb⟩
    · have := h7 a ham
      rw [contains_app, h5, Bool.or_false] at this
      rw [ha2, isL_all]; exact this
    · have := h7 z hzm
      rw [contains_app, h6, Bool.or_false] at this
      rw [hz2, isL_all]; exact this
theorem dis_key (b : UInt8) : isL (b.toNat : Int) = true → ([45, 95, 46, 47] : List UInt8).contains b = false := by
  have := byte_all (P := fun b => !isL (b.toNat : Int) || !([45, 95, 46, 47] : List UInt8).contains b) (by decide +kernel) b
  intro h
  rw [h] at this
  simpa using this
theorem dis_val (b : UInt8) : isL (b.toNat : Int) = true → ([45, 95, 46] : List UInt8).contains b = false := by
  have := byte_all (P := fun b => !isL (b.toNat : Int) || !([45, 95, 46] : List UInt8).contains b) (by decide +kernel) b
  intro h
  rw [h] at this
  simpa using this
theorem key_iff (s : ByteArray) : KeyP s ↔ IdP 30 allL [45, 95, 46, 47] s := word_iff keyO _ key_all dis_key 30 s
theorem val_iff (s : ByteArray) : ValP s ↔ s.size = 0 ∨ IdP 20 allL [45, 95, 46] s := by
  unfold ValP
  rw [word_iff valO _ val_all dis_val 20 s]
end Go.Proofs.YtdgedclpaplgoaaDoor.lab
namespace Go.Proofs.YtdgedclpaplgoaaDoor.lab
open Go.ChangeShapes Go.WideShapes Go.ChangeAt Go.RowKit
set_option linter.unusedVariables false

theorem trim_any (s cs : ByteArray) (w : World) (hs : s.size ≤ 9223372036854775807) (hcs : cs.size < 4294967281) (ha : ∀ (j : Nat) b, cs.data.toList[j]? = some b → b.toNat < 128) :
    Calls Tryd.prog 82 #[.string s, .string cs] w fun e w' => e = .returned (.string ⟨(Lib.trimS s.data.toList cs.data.toList).toArray⟩) ∧ Below w.heap.size w w' :=
  Any.strings_Trim_laid Tryd.lays160 (by kernel_rfl) s cs w hs hcs ha
theorem mk_same {s : ByteArray} {l : List UInt8} : ((⟨l.toArray⟩ : ByteArray) = s) ↔ l = s.data.toList := by
  constructor
  · rintro rfl; rfl
  · rintro rfl; apply ByteArray.ext; apply Array.ext'; rfl
theorem tl_data (s : ByteArray) : s.toList = s.data.toList := ByteArray.toList_eq s
theorem ascii_app {a b : ByteArray} (h1 : ∀ (j : Nat) c, a.data.toList[j]? = some c → c.toNat < 128) (h2 : ∀ (j : Nat) c, b.data.toList[j]? = some c → c.toNat < 128) :
    ∀ (j : Nat) c, (a ++ b).data.toList[j]? = some c → c.toNat < 128 := by
  intro j c h
  have e : (a ++ b).data.toList = a.data.toList ++ b.data.toList := by simp
  rw [e] at h
  rcases List.mem_append.1 (List.mem_of_getElem? h) with h | h
  · obtain ⟨i, hi, rfl⟩ := List.getElem_of_mem h
    exact h1 i _ (List.getElem?_eq_getElem hi)
  · obtain ⟨i, hi, rfl⟩ := List.getElem_of_mem h
    exact h2 i _ (List.getElem?_eq_getElem hi)

set_option maxRecDepth 100000 in
set_option maxHeartbeats 4000000 in
theorem impl_id (s : ByteArray) (most : Nat) (ls ms : ByteArray) (w : World) (hs : s.size ≤ 9223372036854775807) (hm : most ≤ 100) (hls : ls.size ≤ 100) (hms : ms.size ≤ 100)
    (h1 : ∀ (j : Nat) b, ls.data.toList[j]? = some b → b.toNat < 128) (h2 : ∀ (j : Nat) b, ms.data.toList[j]? = some b → b.toNat < 128) :
    Calls Tryd.prog 43 #[.string s, .int .i64 most, .string ls, .string ms] w fun e w' => e = .returned (.bool (yes (IdP most ls.data.toList ms.data.toList s))) ∧ Below w.heap.size w w' := by
  obtain ⟨R, hR⟩ : ∃ R, yes (IdP most ls.data.toList ms.data.toList s) = R := ⟨_, rfl⟩
  rw [hR]
  have Hno : Hid (¬ IdP most ls.data.toList ms.data.toList s → R = false) := fun h => by rw [← hR]; exact yes_f h
  have Hyes : Hid (IdP most ls.data.toList ms.data.toList s → R = true) := fun h => by rw [← hR]; exact yes_t h
  have HT1 := Lib.hid (fun w => trim_any s ms w hs (by omega) h2)
  have HT2 := Lib.hid (fun w => trim_any s (ls ++ ms) w hs (by rw [ByteArray.size_append]; omega) (ascii_app h1 h2))
  have hap : (ls ++ ms).data.toList = ls.data.toList ++ ms.data.toList := by simp
  rw [hap] at HT2
  have hsum : ¬ 9223372036854775807 < ls.size + ms.size := by omega
  clear hR h1 h2 hap
  by_cases h0 : s.size = 0
  · have Hf := Lib.hid (Hno.out fun h => by have := h.1; omega)
    have he : (s.toList == []) = true := by
      have : s.toList.length = 0 := by rw [tl_data, size_l]; exact h0
      rw [List.eq_nil_of_length_eq_zero this]; rfl
    clear Hno Hyes HT1 HT2 h0 hls hms
    go_enter Tryd.func43, Tryd.ntmps43
    go_wp2_with fail
    go_ret
    exact ⟨by rw [Hf.out]; rfl, Below.refl _ _⟩
  have he : (s.toList == []) = false := by
    rw [beq_eq_false_iff_ne]
    intro e
    apply h0
    rw [← size_l, ← tl_data, e]; rfl
  by_cases hl : most < s.size
  · have Hf := Lib.hid (Hno.out fun h => by have := h.2.1; omega)
    clear Hno Hyes HT1 HT2 h0 hls hms
    go_enter Tryd.func43, Tryd.ntmps43
    go_wp2_with fail
    go_ret
    exact ⟨by rw [Hf.out]; rfl, Below.refl _ _⟩
  by_cases ht : Lib.trimS s.data.toList ms.data.toList = s.data.toList
  case neg =>
    have Hf := Lib.hid (Hno.out fun h => ht h.2.2.1)
    generalize Lib.trimS s.data.toList ms.data.toList = t at HT1 ht
    have hne : (t == s.toList) = false := beq_eq_false_iff_ne.2 (by rw [tl_data]; exact ht)
    clear Hno Hyes HT2 h0 hls hms ht
    go_enter Tryd.func43, Tryd.ntmps43
    go_wp2_with fail
    refine (HT1.out _).mono ?_
    rintro e w1 ⟨rfl, hb⟩
    go_wp2_with fail
    go_ret
    exact ⟨by rw [Hf.out]; rfl, hb⟩
  have Hmk := Lib.hid (fun (h3 : Lib.trimS s.data.toList (ls.data.toList ++ ms.data.toList) = []) => Hyes.out ⟨by omega, by omega, ht, h3⟩)
  have Hno2 := Lib.hid (fun (h3 : ¬ Lib.trimS s.data.toList (ls.data.toList ++ ms.data.toList) = []) => Hno.out fun h => h3 h.2.2.2)
  generalize Lib.trimS s.data.toList ms.data.toList = t at HT1 ht
  have hne : (t == s.toList) = true := beq_iff_eq.2 (by rw [tl_data]; exact ht)
  clear ht Hno Hyes h0 hls hms
  generalize Lib.trimS s.data.toList (ls.data.toList ++ ms.data.toList) = u at HT2 Hmk Hno2
  by_cases hu : u = []
  · have Hf := Lib.hid (Hmk.out hu)
    subst hu
    clear Hmk Hno2
    go_enter Tryd.func43, Tryd.ntmps43
    go_wp2_with fail
    refine (HT1.out _).mono ?_
    rintro e w1 ⟨rfl, hb⟩
    go_wp2_with fail
    refine (HT2.out _).mono ?_
    rintro e w2 ⟨rfl, hb2⟩
    go_wp2_with fail
    go_ret
    exact ⟨by rw [Hf.out]; rfl, hb.trans (hb2.mono hb.size)⟩
  · have Hf := Lib.hid (Hno2.out hu)
    have hne2 : (u == []) = false := beq_eq_false_iff_ne.2 hu
    clear Hmk Hno2 hu
    go_enter Tryd.func43, Tryd.ntmps43
    go_wp2_with fail
    refine (HT1.out _).mono ?_
    rintro e w1 ⟨rfl, hb⟩
    go_wp2_with fail
    refine (HT2.out _).mono ?_
    rintro e w2 ⟨rfl, hb2⟩
    go_wp2_with fail
    go_ret
    exact ⟨by rw [Hf.out]; rfl, hb.trans (hb2.mono hb.size)⟩
theorem impl_key (s : ByteArray) (w : World) (hs : s.size ≤ 9223372036854775807) :
    Calls Tryd.prog 88 #[.string s] w fun e w' => e = .returned (.bool (yes (KeyP s))) ∧ Below w.heap.size w w' := by
  have H := Lib.hid (impl_id s 30 ⟨allL.toArray⟩ ⟨#[45, 95, 46, 47]⟩ w hs (by decide) (by decide) (by decide) (ascii_of_all (by decide)) (ascii_of_all (by decide)))
  have e : yes (IdP 30 (⟨allL.toArray⟩ : ByteArray).data.toList (⟨#[45, 95, 46, 47]⟩ : ByteArray).data.toList s) = yes (KeyP s) := by
    congr 1; exact propext (key_iff s).symm
  rw [e] at H
  clear e
  generalize yes (KeyP s) = R at H
  unfold allL lowL at H
  go_enter Tryd.func88, Tryd.ntmps88
  go_wp2_with fail
  refine H.out.mono ?_
  rintro e w1 ⟨rfl, hb⟩
  go_wp2_with fail
  go_ret
  exact ⟨rfl, hb⟩
theorem impl_val (s : ByteArray) (w : World) (hs : s.size ≤ 9223372036854775807) :
    Calls Tryd.prog 89 #[.string s] w fun e w' => e = .returned (.bool (yes (ValP s))) ∧ Below w.heap.size w w' := by
  have H := Lib.hid (impl_id s 20 ⟨allL.toArray⟩ ⟨#[45, 95, 46]⟩ w hs (by decide) (by decide) (by decide) (ascii_of_all (by decide)) (ascii_of_all (by decide)))
  by_cases h0 : s.size = 0
  · have Hf := Lib.hid (yes_t (p := ValP s) (.inl h0))
    have he : (s.toList == []) = true := by
      have : s.toList.length = 0 := by rw [tl_data, size_l]; exact h0
      rw [List.eq_nil_of_length_eq_zero this]; rfl
    clear H h0
    go_enter Tryd.func89, Tryd.ntmps89
    go_wp2_with fail
    go_ret
    exact ⟨by rw [Hf.out]; rfl, Below.refl _ _⟩
  have he : (s.toList == []) = false := by
    rw [beq_eq_false_iff_ne]
    intro e
    apply h0
    rw [← size_l, ← tl_data, e]; rfl
  have e : yes (IdP 20 (⟨allL.toArray⟩ : ByteArray).data.toList (⟨#[45, 95, 46]⟩ : ByteArray).data.toList s) = yes (ValP s) := by
    congr 1
    refine propext ?_
    rw [val_iff]
    constructor
    · exact fun h => .inr h
    · rintro (h | h)
      · exact absurd h h0
      · exact h
  rw [e] at H
  clear e h0
  generalize yes (ValP s) = R at H
  unfold allL lowL at H
  go_enter Tryd.func89, Tryd.ntmps89
  go_wp2_with fail
  refine H.out.mono ?_
  rintro e w1 ⟨rfl, hb⟩
  go_wp2_with fail
  go_ret
  exact ⟨rfl, hb⟩
end Go.Proofs.YtdgedclpaplgoaaDoor.lab
