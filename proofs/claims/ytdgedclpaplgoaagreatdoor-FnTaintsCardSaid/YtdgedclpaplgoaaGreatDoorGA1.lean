/- Merged: SqM ArithM TrimP IdI CmpI GrB. -/
import Derived.Test.YtdgedclpaplgoaaGreatDoorGA0
import Derived.Test.YtdgedclpaplgoaaGreatDoorRows
import Derived.ProofKit
import Derived.OpenShut
import Derived.Lib.SlTrimSet
import Derived.Test.YtdgedclpaplgoaaGreatDoorShelf
import Derived.Shelf.Strings.SlTrimAscii
import Derived.Sort.Grow
namespace Go.Proofs.YtdgedclpaplgoaaGreatDoor.dedup
open Go Go.RowKit
set_option linter.unusedVariables false
variable {α β : Type}

open Classical in
noncomputable def sqTo (κ : α → β) (l : List α) : Nat → List α
  | 0 => []
  | j + 1 => if h : j < l.length then (if ∃ m, ∃ hm : m + 1 = j, κ l[j] = κ (l[m]'(by omega)) then sqTo κ l j else sqTo κ l j ++ [l[j]]) else sqTo κ l j
theorem sq_same {κ : α → β} {l : List α} {m : Nat} (h : m + 1 < l.length) (he : κ l[m + 1] = κ l[m]) : sqTo κ l (m + 2) = sqTo κ l (m + 1) := by
  rw [sqTo, dif_pos h, if_pos ⟨m, rfl, he⟩]
theorem sq_next {κ : α → β} {l : List α} {m : Nat} (h : m + 1 < l.length) (he : κ l[m + 1] ≠ κ l[m]) : sqTo κ l (m + 2) = sqTo κ l (m + 1) ++ [l[m + 1]] := by
  rw [sqTo, dif_pos h, if_neg]
  rintro ⟨m', hm, e⟩
  obtain rfl : m' = m := by omega
  exact he e
theorem sq_one {κ : α → β} {l : List α} (h : 0 < l.length) : sqTo κ l 1 = [l[0]] := by
  rw [sqTo, dif_pos h, if_neg]
  · rfl
  · rintro ⟨m', hm, _⟩
    omega
theorem sq_length (κ : α → β) (l : List α) : ∀ j, (sqTo κ l j).length ≤ j
  | 0 => Nat.le_refl _
  | j + 1 => by
    have ih := sq_length κ l j
    rw [sqTo]
    split
    · split
      · omega
      · simp; omega
    · omega
/-- As long as no element stands beside its like, all of them. -/
theorem sq_take {κ : α → β} {l : List α} : ∀ {j : Nat}, j ≤ l.length → (∀ m (h : m + 1 < l.length), m + 1 < j → κ l[m + 1] ≠ κ l[m]) → sqTo κ l j = l.take j
  | 0, _, _ => rfl
  | 1, h, _ => by
    rw [sq_one (by omega)]
    match l, h with
    | x :: r, _ => rfl
  | j + 2, h, hn => by
    rw [sq_next (by omega) (hn j (by omega) (by omega)), sq_take (j := j + 1) (by omega) (fun m hm hj => hn m hm (by omega))]
    rw [List.take_succ_eq_append_getElem (by omega)]
    simp
theorem sq_map (κ : α → β) (l : List α) : ∀ j, (sqTo κ l j).map κ = sqTo id (l.map κ) j
  | 0 => rfl
  | j + 1 => by
    have ih := sq_map κ l j
    rw [sqTo, sqTo]
    by_cases h : j < l.length
    · rw [dif_pos h, dif_pos (by simpa using h)]
      by_cases he : ∃ m, ∃ hm : m + 1 = j, κ l[j] = κ (l[m]'(by omega))
      · rw [if_pos he, if_pos (by obtain ⟨m, hm, e⟩ := he; exact ⟨m, hm, by simpa using e⟩)]
        exact ih
      · rw [if_neg he, if_neg (by rintro ⟨m, hm, e⟩; exact he ⟨m, hm, by simpa using e⟩), List.map_append, ih]
        simp
    · rw [dif_neg h, dif_neg (by simpa using h)]
      exact ih
theorem sq_sub (κ : α → β) (l : List α) : ∀ j, j ≤ l.length → (sqTo κ l j).Sublist (l.take j)
  | 0, _ => List.nil_sublist _
  | j + 1, h => by
    have ih := sq_sub κ l j (by omega)
    rw [sqTo, dif_pos (by omega), List.take_succ_eq_append_getElem (by omega)]
    split
    · exact ih.trans (List.sublist_append_left _ _)
    · exact ih.append (List.Sublist.refl _)
theorem sq_mem (l : List α) : ∀ j, j ≤ l.length → ∀ y, y ∈ sqTo id l j ↔ y ∈ l.take j
  | 0, _, y => by simp [sqTo]
  | 1, h, y => by
    rw [sq_one (by omega)]
    match l, h with
    | x :: r, _ => simp
  | j + 2, h, y => by
    have ih := sq_mem l (j + 1) (by omega) y
    rw [List.take_succ_eq_append_getElem (by omega), List.mem_append, ← ih]
    by_cases he : l[j + 1] = l[j]
    · rw [sq_same (κ := id) (by omega) he, he]
      constructor
      · exact .inl
      · rintro (h1 | h1)
        · exact h1
        · obtain rfl : y = l[j] := by simpa using h1
          refine (sq_mem l (j + 1) (by omega) _).2 ?_
          rw [List.take_succ_eq_append_getElem (by omega)]
          exact List.mem_append.2 (.inr (List.mem_singleton.2 rfl))
    · rw [sq_next (κ := id) (by omega) he, List.mem_append]
theorem sq_asc {lt : α → α → Bool} (o : Ord lt) {l : List α} (hw : l.Pairwise fun a b => lt b a = false) : ∀ j, j ≤ l.length → Asc lt (sqTo id l j)
  | 0, _ => List.Pairwise.nil
  | 1, h => by rw [sq_one (by omega)]; exact List.pairwise_singleton _ _
  | j + 2, h => by
    have ih := sq_asc o hw (j + 1) (by omega)
    by_cases he : l[j + 1] = l[j]
    · rw [sq_same (κ := id) (by omega) he]; exact ih
    · rw [sq_next (κ := id) (by omega) he]
      refine List.pairwise_append.2 ⟨ih, List.pairwise_singleton _ _, fun a ha b hb => ?_⟩
      obtain rfl : b = l[j + 1] := by simpa using hb
      rw [sq_mem l (j + 1) (by omega)] at ha
      obtain ⟨i, hi, rfl⟩ := List.getElem_of_mem ha
      have hi1 : i < j + 1 := by rw [List.length_take] at hi; omega
      rw [List.getElem_take]
      rw [List.pairwise_iff_getElem] at hw
      have hlt : lt l[j] l[j + 1] = true := by
        cases hc : lt l[j] l[j + 1] with
        | true => rfl
        | false => exact absurd (o.tot _ _ hc (hw j (j + 1) (by omega) (by omega) (by omega))).symm he
      by_cases e : i = j
      · subst e; exact hlt
      · have h3 := hw i j (by omega) (by omega) (by omega)
        cases hc : lt l[i] l[j] with
        | true => exact o.tr _ _ _ hc hlt
        | false =>
          have := o.tot _ _ hc h3
          rw [this]; exact hlt
/-- Sorted, then without repetitions: each element once, in order. -/
theorem sq_dsort {lt : α → α → Bool} (o : Ord lt) {l d : List α} (hp : List.Perm d l) (hw : d.Pairwise fun a b => lt b a = false) : sqTo id d d.length = dsort lt l :=
  dsort_is o l _ (sq_asc o hw _ (Nat.le_refl _)) fun y => by rw [sq_mem d _ (Nat.le_refl _), List.take_length]; exact hp.mem_iff
/-- Where the second loop of slices.CompactFunc stands: j elements seen, kk kept. -/
structure Comp (κ : α → β) (l : List α) (j kk : Nat) (dk : List α) : Prop where
  len : dk.length = l.length
  out : dk.take kk = sqTo κ l j
  klen : (sqTo κ l j).length = kk
  lt : kk < j
  le : j ≤ l.length
  high : ∀ i (h : i < dk.length) (h2 : i < l.length), j ≤ i + 1 → dk[i] = l[i]
theorem Comp.start {κ : α → β} {l : List α} {m : Nat} (h : m + 1 < l.length) (hn : ∀ q (h : q + 1 < l.length), q + 1 < m + 1 → κ l[q + 1] ≠ κ l[q]) (he : κ l[m + 1] = κ l[m]) : Comp κ l (m + 2) (m + 1) l := by
  have e : sqTo κ l (m + 2) = l.take (m + 1) := by rw [sq_same h he, sq_take (by omega) hn]
  exact ⟨rfl, e.symm, by rw [e, List.length_take]; omega, by omega, by omega, fun i _ _ _ => rfl⟩
theorem Comp.skip {κ : α → β} {l dk : List α} {m kk : Nat} (c : Comp κ l (m + 1) kk dk) (h : m + 1 < l.length) (he : κ l[m + 1] = κ l[m]) : Comp κ l (m + 2) kk dk := by
  have e := sq_same h he
  exact ⟨c.len, by rw [e]; exact c.out, by rw [e]; exact c.klen, by have := c.lt; omega, by omega, fun i h1 h2 h3 => c.high i h1 h2 (by omega)⟩
theorem Comp.keep {κ : α → β} {l dk : List α} {m kk : Nat} (c : Comp κ l (m + 1) kk dk) (h : m + 1 < l.length) (he : κ l[m + 1] ≠ κ l[m]) : Comp κ l (m + 2) (kk + 1) (dk.set kk l[m + 1]) := by
  have e := sq_next h he
  have h1 := c.lt
  have h2 := c.len
  refine ⟨by simp [h2], ?_, by rw [e, List.length_append, c.klen]; rfl, by omega, by omega, fun i i1 i2 i3 => ?_⟩
  · rw [e, ← c.out, List.take_succ_eq_append_getElem (by simp; omega), List.getElem_set_self]
    congr 1
    rw [List.take_set_of_le (by omega)]
  · rw [List.getElem_set_ne (by omega)]
    exact c.high i _ i2 (by omega)
theorem sq_all {κ : α → β} {l : List α} (hn : ∀ q (h : q + 1 < l.length), κ l[q + 1] ≠ κ l[q]) : sqTo κ l l.length = l := by
  rw [sq_take (Nat.le_refl _) (fun q h _ => hn q h), List.take_length]
end Go.Proofs.YtdgedclpaplgoaaGreatDoor.dedup
namespace Go.Proofs.YtdgedclpaplgoaaGreatDoor.arith
open Go.ChangeShapes Go.WideShapes Go.ChangeAt Go.RowKit
set_option linter.unusedVariables false

/-- The number of a checked result (0 for none) and whether there is one. -/
def val : Option Int → Int
  | some x => x
  | none => 0
def has : Option Int → Bool
  | some _ => true
  | none => false
def two (o : Option Int) : Value := .tuple #[.int .i64 (val o), .bool (has o)]
theorem two_some (x : Int) : two (some x) = .tuple #[.int .i64 x, .bool true] := rfl
theorem two_none : two none = .tuple #[.int .i64 0, .bool false] := rfl

def addF (a b : Int) : Option Int := if 0 ≤ a ∧ 0 ≤ b ∧ a + b ≤ 9223372036854775807 then some (a + b) else none
def subF (a b : Int) : Option Int := if 0 ≤ b ∧ b ≤ a then some (a - b) else none
def mulF (a b : Int) : Option Int := if 0 ≤ a ∧ 0 ≤ b ∧ a * b ≤ 9223372036854775807 then some (a * b) else none
def cmpF (a b : Int) : Int := if a < b then -1 else if b < a then 1 else 0
def powF (b : Int) : Nat → Option Int
  | 0 => some 1
  | k + 1 => (powF b k).bind fun x => mulF x b
def pow2F (b n : Int) : Option Int := if 0 ≤ b ∧ 0 ≤ n ∧ n ≤ 100 then powF b n.toNat else none
def sumStep (o : Option Int) (x : Int) : Option Int := o.bind fun s => addF s x
def sumF (l : List Int) : Option Int := l.foldl sumStep (some 0)

theorem add_yes {a b : Int} (h0 : 0 ≤ a) (h1 : 0 ≤ b) (h2 : a + b ≤ 9223372036854775807) : addF a b = some (a + b) := by unfold addF; rw [if_pos ⟨h0, h1, h2⟩]
theorem add_no {a b : Int} (h : ¬ (0 ≤ a ∧ 0 ≤ b ∧ a + b ≤ 9223372036854775807)) : addF a b = none := by unfold addF; rw [if_neg h]
theorem add_bd {a b x : Int} (h : addF a b = some x) : 0 ≤ a ∧ 0 ≤ b ∧ x = a + b ∧ x ≤ 9223372036854775807 := by
  unfold addF at h
  split at h
  · injection h with h; rename_i h2; exact ⟨h2.1, h2.2.1, h.symm, h ▸ h2.2.2⟩
  · cases h
theorem sub_yes {a b : Int} (h0 : 0 ≤ b) (h1 : b ≤ a) : subF a b = some (a - b) := by unfold subF; rw [if_pos ⟨h0, h1⟩]
theorem sub_no {a b : Int} (h : ¬ (0 ≤ b ∧ b ≤ a)) : subF a b = none := by unfold subF; rw [if_neg h]
theorem mul_yes {a b : Int} (h0 : 0 ≤ a) (h1 : 0 ≤ b) (h2 : a * b ≤ 9223372036854775807) : mulF a b = some (a * b) := by unfold mulF; rw [if_pos ⟨h0, h1, h2⟩]
theorem mul_no {a b : Int} (h : ¬ (0 ≤ a ∧ 0 ≤ b ∧ a * b ≤ 9223372036854775807)) : mulF a b = none := by unfold mulF; rw [if_neg h]
theorem mul_bd {a b x : Int} (h : mulF a b = some x) : 0 ≤ a ∧ 0 ≤ b ∧ x = a * b ∧ 0 ≤ x ∧ x ≤ 9223372036854775807 := by
  unfold mulF at h
  split at h
  · injection h with h; rename_i h2; exact ⟨h2.1, h2.2.1, h.symm, h ▸ Int.mul_nonneg h2.1 h2.2.1, h ▸ h2.2.2⟩
  · cases h
/-- Room for a product, as the division by b tells it. -/
theorem room {a b : Int} (h1 : 0 < b) : a ≤ 9223372036854775807 / b ↔ a * b ≤ 9223372036854775807 := Int.le_ediv_iff_mul_le h1

theorem pow_zero (b : Int) : powF b 0 = some 1 := rfl
theorem pow_some {b x : Int} {k : Nat} (h : powF b k = some x) : powF b (k + 1) = mulF x b := by show (powF b k).bind _ = _; rw [h]; rfl
theorem pow_none {b : Int} {k : Nat} (h : powF b k = none) : powF b (k + 1) = none := by show (powF b k).bind _ = _; rw [h]; rfl
theorem pow_dead {b : Int} {k : Nat} (h : powF b k = none) : ∀ n, k ≤ n → powF b n = none := by
  intro n hn
  induction n with
  | zero => obtain rfl : k = 0 := by omega
            exact h
  | succ n ih =>
    by_cases e : k = n + 1
    · subst e; exact h
    · exact pow_none (ih (by omega))
theorem pow_bd {b x : Int} {k : Nat} (h : powF b k = some x) : 0 ≤ x ∧ x ≤ 9223372036854775807 := by
  cases k with
  | zero => injection h with h; omega
  | succ k =>
    cases hp : powF b k with
    | none => rw [pow_none hp] at h; cases h
    | some y => rw [pow_some hp] at h; exact (mul_bd h).2.2.2
theorem pow2_yes {b : Int} {n : Nat} (h0 : 0 ≤ b) (h1 : n ≤ 100) : pow2F b n = powF b n := by unfold pow2F; rw [if_pos ⟨h0, by omega, by omega⟩]; rfl
theorem pow2_no {b n : Int} (h : ¬ (0 ≤ b ∧ 0 ≤ n ∧ n ≤ 100)) : pow2F b n = none := by unfold pow2F; rw [if_neg h]

theorem sum_zero (l : List Int) : sumF (l.take 0) = some 0 := by simp [sumF]
theorem sum_take {l : List Int} {k : Nat} (hk : k < l.length) : sumF (l.take (k + 1)) = (sumF (l.take k)).bind fun s => addF s (l.getD k 0) := by
  rw [List.take_succ_eq_append_getElem hk]
  unfold sumF
  rw [List.foldl_append, List.getD_eq_getElem?_getD, List.getElem?_eq_getElem hk]
  rfl
theorem sum_go {l : List Int} {k : Nat} {s : Int} (hk : k < l.length) (h : sumF (l.take k) = some s) : sumF (l.take (k + 1)) = addF s (l.getD k 0) := by rw [sum_take hk, h]; rfl
theorem sum_dead {l : List Int} {k : Nat} (h : sumF (l.take k) = none) : sumF l = none := by
  have e : sumF l = (l.drop k).foldl sumStep (sumF (l.take k)) := by
    unfold sumF
    rw [← List.foldl_append, List.take_append_drop]
  rw [e, h]
  clear e h
  induction l.drop k with
  | nil => rfl
  | cons a r ih => exact ih
theorem sum_bd : ∀ (k : Nat) {l : List Int} {s : Int}, k ≤ l.length → sumF (l.take k) = some s → 0 ≤ s ∧ s ≤ 9223372036854775807
  | 0, l, s, _, h => by rw [sum_zero] at h; injection h with h; omega
  | k + 1, l, s, hk, h => by
    cases hp : sumF (l.take k) with
    | none => rw [sum_take (by omega), hp] at h; cases h
    | some y =>
      rw [sum_go (by omega) hp] at h
      have := sum_bd k (by omega) hp
      have := add_bd h
      omega

end Go.Proofs.YtdgedclpaplgoaaGreatDoor.arith
namespace Go.Proofs.YtdgedclpaplgoaaGreatDoor.lab
open Go Go.RowKit
set_option linter.unusedVariables false

theorem drop_same {p : UInt8 → Bool} (l : List UInt8) : (l.dropWhile p = l) ↔ ∀ b, l.head? = some b → p b = false := by
  cases l with
  | nil => simp
  | cons a r =>
    rw [List.dropWhile_cons]
    by_cases h : p a = true
    · rw [if_pos h]
      constructor
      · intro e
        have h1 := congrArg List.length e
        have h2 := (List.dropWhile_suffix (p := p) (l := r)).length_le
        rw [List.length_cons] at h1
        omega
      · intro e
        have := e a rfl
        rw [this] at h; cases h
    · rw [if_neg h]
      simp at h
      simp [h]
theorem drop_none {p : UInt8 → Bool} (l : List UInt8) : (l.dropWhile p = []) ↔ ∀ b ∈ l, p b = true := by
  induction l with
  | nil => simp
  | cons a r ih =>
    rw [List.dropWhile_cons]
    by_cases h : p a = true
    · rw [if_pos h, ih]; simp [h]
    · rw [if_neg h]; simp [h]
theorem trim_same (l cs : List UInt8) : (Lib.trimS l cs = l) ↔ (∀ b, l.head? = some b → cs.contains b = false) ∧ (∀ b, l.getLast? = some b → cs.contains b = false) := by
  unfold Lib.trimS Lib.trimLeftS Lib.trimRightS
  constructor
  · intro h
    have h1 := congrArg List.length h
    have h2 := (List.dropWhile_suffix (p := (cs.contains ·)) (l := (l.reverse.dropWhile (cs.contains ·)).reverse)).length_le
    have h3 := (List.dropWhile_suffix (p := (cs.contains ·)) (l := l.reverse)).length_le
    rw [List.length_reverse] at h2 h3
    have h4 : l.reverse.dropWhile (cs.contains ·) = l.reverse := (List.dropWhile_suffix _).eq_of_length (by rw [List.length_reverse]; omega)
    rw [h4, List.reverse_reverse] at h
    refine ⟨(drop_same l).1 h, fun b hb => (drop_same l.reverse).1 h4 b (by rw [List.head?_reverse]; exact hb)⟩
  · rintro ⟨h1, h2⟩
    have h4 : l.reverse.dropWhile (cs.contains ·) = l.reverse := (drop_same l.reverse).2 fun b hb => h2 b (by rw [List.head?_reverse] at hb; exact hb)
    rw [h4, List.reverse_reverse]
    exact (drop_same l).2 h1
theorem trim_none (l cs : List UInt8) : (Lib.trimS l cs = []) ↔ ∀ b ∈ l, cs.contains b = true := by
  unfold Lib.trimS Lib.trimLeftS Lib.trimRightS
  rw [drop_none]
  constructor
  · intro h
    by_cases e : l.reverse.dropWhile (cs.contains ·) = []
    · intro b hb
      exact (drop_none l.reverse).1 e b (List.mem_reverse.2 hb)
    · exfalso
      have hl := List.head?_dropWhile_not (cs.contains ·) l.reverse
      cases hd : l.reverse.dropWhile (cs.contains ·) with
      | nil => exact e hd
      | cons a r =>
        rw [hd] at hl h
        have := h a (by simp)
        simp at hl
        simp [hl] at this
  · intro h b hb
    refine h b ?_
    rw [List.mem_reverse] at hb
    exact List.mem_reverse.1 ((List.dropWhile_suffix _).subset hb)
/-- As impl tells a word. -/
def IdP (most : Nat) (ls ms : List UInt8) (s : ByteArray) : Prop := 1 ≤ s.size ∧ s.size ≤ most ∧ Lib.trimS s.data.toList ms = s.data.toList ∧ Lib.trimS s.data.toList (ls ++ ms) = []
def lowL : List UInt8 := [97, 98, 99, 100, 101, 102, 103, 104, 105, 106, 107, 108, 109, 110, 111, 112, 113, 114, 115, 116, 117, 118, 119, 120, 121, 122, 48, 49, 50, 51, 52, 53, 54, 55, 56, 57]
def allL : List UInt8 := [65, 66, 67, 68, 69, 70, 71, 72, 73, 74, 75, 76, 77, 78, 79, 80, 81, 82, 83, 84, 85, 86, 87, 88, 89, 90] ++ lowL
theorem byte_all {P : UInt8 → Bool} (h : ∀ n, n < 256 → P (UInt8.ofNat n) = true) (b : UInt8) : P b = true := by
  have := h b.toNat b.toNat_lt
  rwa [UInt8.ofNat_toNat] at this
theorem isL_all (b : UInt8) : isL (b.toNat : Int) = allL.contains b := by
  have := byte_all (P := fun b => isL (b.toNat : Int) == allL.contains b) (by decide +kernel) b
  simpa using this
theorem nameB_all (b : UInt8) : nameB (b.toNat : Int) = (lowL ++ [45]).contains b := by
  have := byte_all (P := fun b => nameB (b.toNat : Int) == (lowL ++ [45]).contains b) (by decide +kernel) b
  simpa using this
theorem key_all (b : UInt8) : wordB keyO (b.toNat : Int) = (allL ++ [45, 95, 46, 47]).contains b := by
  have := byte_all (P := fun b => wordB keyO (b.toNat : Int) == (allL ++ [45, 95, 46, 47]).contains b) (by decide +kernel) b
  simpa using this
theorem val_all (b : UInt8) : wordB valO (b.toNat : Int) = (allL ++ [45, 95, 46]).contains b := by
  have := byte_all (P := fun b => wordB valO (b.toNat : Int) == (allL ++ [45, 95, 46]).contains b) (by decide +kernel) b
  simpa using this
theorem at_get (s : ByteArray) (i : Nat) (h : i < s.data.toList.length) : at_ s i = (s.data.toList[i].toNat : Int) := by
  unfold at_
  rw [List.getD_eq_getElem?_getD, List.getElem?_eq_getElem h]
  rfl
theorem size_l (s : ByteArray) : s.data.toList.length = s.size := by rw [Array.length_toList]; rfl
theorem head_at {s : ByteArray} (h : 1 ≤ s.size) : ∃ b, s.data.toList.head? = some b ∧ at_ s 0 = (b.toNat : Int) ∧ b ∈ s.data.toList := by
  have hl : 0 < s.data.toList.length := by rw [size_l]; omega
  exact ⟨s.data.toList[0], by rw [List.head?_eq_getElem?, List.getElem?_eq_getElem hl], at_get s 0 hl, List.getElem_mem hl⟩
theorem last_at {s : ByteArray} (h : 1 ≤ s.size) : ∃ b, s.data.toList.getLast? = some b ∧ at_ s (s.size - 1) = (b.toNat : Int) ∧ b ∈ s.data.toList := by
  have hl : s.size - 1 < s.data.toList.length := by rw [size_l]; omega
  exact ⟨s.data.toList[s.size - 1], by rw [List.getLast?_eq_getElem?, size_l, List.getElem?_eq_getElem hl], at_get s _ hl, List.getElem_mem hl⟩
theorem all_at {s : ByteArray} {p : Int → Bool} : (∀ i, i < s.size → p (at_ s i) = true) ↔ ∀ b ∈ s.data.toList, p (b.toNat : Int) = true := by
  constructor
  · intro h b hb
    obtain ⟨i, hi, rfl⟩ := List.getElem_of_mem hb
    rw [← at_get s i hi]
    exact h i (by rwa [size_l] at hi)
  · intro h i hi
    have hl : i < s.data.toList.length := by rwa [size_l]
    rw [at_get s i hl]
    exact h _ (List.getElem_mem hl)
theorem name_iff (s : ByteArray) : NameP s ↔ IdP 20 lowL [45] s := by
  constructor
  · rintro ⟨h1, h2, h3, h4, h5⟩
    obtain ⟨a, ha, ha2, _⟩ := head_at h1
    obtain ⟨z, hz, hz2, _⟩ := last_at h1
    rw [ha2] at h3
    rw [hz2] at h4
    refine ⟨h1, h2, (trim_same _ _).2 ⟨fun b hb => ?_, fun b hb => ?_⟩, (trim_none _ _).2 fun b hb => ?_⟩
    · obtain rfl : a = b := by rw [ha] at hb; exact Option.some.inj hb
      simp only [List.contains_cons, List.contains_nil, Bool.or_false, beq_eq_false_iff_ne]
      rintro rfl; exact h3 rfl
    · obtain rfl : z = b := by rw [hz] at hb; exact Option.some.inj hb
      simp only [List.contains_cons, List.contains_nil, Bool.or_false, beq_eq_false_iff_ne]
      rintro rfl; exact h4 rfl
    · rw [← nameB_all]; exact all_at.1 h5 b hb
  · rintro ⟨h1, h2, h3, h4⟩
    obtain ⟨h5, h6⟩ := (trim_same _ _).1 h3
    have h7 := (trim_none _ _).1 h4
    obtain ⟨a, ha, ha2, _⟩ := head_at h1
    obtain ⟨z, hz, hz2, _⟩ := last_at h1
    have h5 := h5 a ha
    have h6 := h6 z hz
    simp only [List.contains_cons, List.contains_nil, Bool.or_false, beq_eq_false_iff_ne] at h5 h6
    refine ⟨h1, h2, fun e => h5 ?_, fun e => h6 ?_, all_at.2 fun b hb => by rw [nameB_all]; exact h7 b hb⟩
    · rw [ha2] at e
      apply UInt8.toNat_inj.1
      have : (45 : UInt8).toNat = 45 := rfl
      omega
    · rw [hz2] at e
      apply UInt8.toNat_inj.1
      have : (45 : UInt8).toNat = 45 := rfl
      omega
theorem contains_app (a b : List UInt8) (x : UInt8) : (a ++ b).contains x = (a.contains x || b.contains x) := by
  rw [Bool.eq_iff_iff]; simp
/-- Words with o's bytes within, by the two trims. -/
theorem word_iff (o : ByteArray) (ms : List UInt8) (hall : ∀ b : UInt8, wordB o (b.toNat : Int) = (allL ++ ms).contains b) (hdis : ∀ b : UInt8, isL (b.toNat : Int) = true → ms.contains b = false) (most : Nat) (s : ByteArray) : (s.size ≤ most ∧ WordP o s) ↔ IdP most allL ms s := by
  constructor
  · rintro ⟨h2, h1, h3, h4, h5⟩
    obtain ⟨a, ha, ha2, _⟩ := head_at h1
    obtain ⟨z, hz, hz2, _⟩ := last_at h1
    rw [ha2] at h3
    rw [hz2] at h4
    refine ⟨h1, h2, (trim_same _ _).2 ⟨fun b hb => ?_, fun b hb => ?_⟩, (trim_none _ _).2 fun b hb => ?_⟩
    · obtain rfl : a = b := by rw [ha] at hb; exact Option.some.inj hb
      exact hdis _ h3
    · obtain rfl : z = b := by rw [hz] at hb; exact Option.some.inj hb
      exact hdis _ h4
    · rw [← hall]; exact all_at.1 h5 b hb
  · rintro ⟨h1, h2, h3, h4⟩
    obtain ⟨h5, h6⟩ := (trim_same _ _).1 h3
    have h7 := (trim_none _ _).1 h4
    obtain ⟨a, ha, ha2, ham⟩ := head_at h1
    obtain ⟨z, hz, hz2, hzm⟩ := last_at h1
    have h5 := h5 a ha
    have h6 := h6 z hz
    refine ⟨h2, h1, ?_, ?_, all_at.2 fun b hb => by rw [hall]; exact h7 b hb⟩
    · have := h7 a ham
      rw [contains_app, h5, Bool.or_false] at this
      rw [ha2, isL_all]; exact this
    · have := h7 z hzm
      rw [contains_app, h6, Bool.or_false] at this
      rw [hz2, isL_all]; exact this
theorem dis_key (b : UInt8) : isL (b.toNat : Int) = true → ([45, 95, 46, 47] : List UInt8).contains b = false := by
  have := byte_all (P := fun b => !isL (b.toNat : Int) || !([45, 95, 46, 47] : List UInt8).contains b) (by decide +kernel) b
  intro h
  rw [h] at this
  simpa using this
theorem dis_val (b : UInt8) : isL (b.toNat : Int) = true → ([45, 95, 46] : List UInt8).contains b = false := by
  have := byte_all (P := fun b => !isL (b.toNat : Int) || !([45, 95, 46] : List UInt8).contains b) (by decide +kernel) b
  intro h
  rw [h] at this
  simpa using this
theorem key_iff (s : ByteArray) : KeyP s ↔ IdP 30 allL [45, 95, 46, 47] s := word_iff keyO _ key_all dis_key 30 s
theorem val_iff (s : ByteArray) : ValP s ↔ s.size = 0 ∨ IdP 20 allL [45, 95, 46] s := by
  unfold ValP
  rw [word_iff valO _ val_all dis_val 20 s]
end Go.Proofs.YtdgedclpaplgoaaGreatDoor.lab
namespace Go.Proofs.YtdgedclpaplgoaaGreatDoor.lab
open Go.ChangeShapes Go.WideShapes Go.ChangeAt Go.RowKit
set_option linter.unusedVariables false

theorem trim_any (s cs : ByteArray) (w : World) (hs : s.size ≤ 9223372036854775807) (hcs : cs.size < 4294967281) (ha : ∀ (j : Nat) b, cs.data.toList[j]? = some b → b.toNat < 128) :
    Calls Tryz.prog 155 #[.string s, .string cs] w fun e w' => e = .returned (.string ⟨(Lib.trimS s.data.toList cs.data.toList).toArray⟩) ∧ Below w.heap.size w w' :=
  Any.strings_Trim_laid Tryz.lays160 (by kernel_rfl) s cs w hs hcs ha
theorem mk_same {s : ByteArray} {l : List UInt8} : ((⟨l.toArray⟩ : ByteArray) = s) ↔ l = s.data.toList := by
  constructor
  · rintro rfl; rfl
  · rintro rfl; apply ByteArray.ext; apply Array.ext'; rfl
theorem tl_data (s : ByteArray) : s.toList = s.data.toList := ByteArray.toList_eq s
theorem ascii_app {a b : ByteArray} (h1 : ∀ (j : Nat) c, a.data.toList[j]? = some c → c.toNat < 128) (h2 : ∀ (j : Nat) c, b.data.toList[j]? = some c → c.toNat < 128) :
    ∀ (j : Nat) c, (a ++ b).data.toList[j]? = some c → c.toNat < 128 := by
  intro j c h
  have e : (a ++ b).data.toList = a.data.toList ++ b.data.toList := by simp
  rw [e] at h
  rcases List.mem_append.1 (List.mem_of_getElem? h) with h | h
  · obtain ⟨i, hi, rfl⟩ := List.getElem_of_mem h
    exact h1 i _ (List.getElem?_eq_getElem hi)
  · obtain ⟨i, hi, rfl⟩ := List.getElem_of_mem h
    exact h2 i _ (List.getElem?_eq_getElem hi)

set_option maxRecDepth 100000 in
set_option maxHeartbeats 4000000 in
theorem impl_id (s : ByteArray) (most : Nat) (ls ms : ByteArray) (w : World) (hs : s.size ≤ 9223372036854775807) (hm : most ≤ 100) (hls : ls.size ≤ 100) (hms : ms.size ≤ 100)
    (h1 : ∀ (j : Nat) b, ls.data.toList[j]? = some b → b.toNat < 128) (h2 : ∀ (j : Nat) b, ms.data.toList[j]? = some b → b.toNat < 128) :
    Calls Tryz.prog 122 #[.string s, .int .i64 most, .string ls, .string ms] w fun e w' => e = .returned (.bool (yes (IdP most ls.data.toList ms.data.toList s))) ∧ Below w.heap.size w w' := by
  obtain ⟨R, hR⟩ : ∃ R, yes (IdP most ls.data.toList ms.data.toList s) = R := ⟨_, rfl⟩
  rw [hR]
  have Hno : Hid (¬ IdP most ls.data.toList ms.data.toList s → R = false) := fun h => by rw [← hR]; exact yes_f h
  have Hyes : Hid (IdP most ls.data.toList ms.data.toList s → R = true) := fun h => by rw [← hR]; exact yes_t h
  have HT1 := Lib.hid (fun w => trim_any s ms w hs (by omega) h2)
  have HT2 := Lib.hid (fun w => trim_any s (ls ++ ms) w hs (by rw [ByteArray.size_append]; omega) (ascii_app h1 h2))
  have hap : (ls ++ ms).data.toList = ls.data.toList ++ ms.data.toList := by simp
  rw [hap] at HT2
  have hsum : ¬ 9223372036854775807 < ls.size + ms.size := by omega
  clear hR h1 h2 hap
  by_cases h0 : s.size = 0
  · have Hf := Lib.hid (Hno.out fun h => by have := h.1; omega)
    have he : (s.toList == []) = true := by
      have : s.toList.length = 0 := by rw [tl_data, size_l]; exact h0
      rw [List.eq_nil_of_length_eq_zero this]; rfl
    clear Hno Hyes HT1 HT2 h0 hls hms
    go_enter Tryz.func122, Tryz.ntmps122
    go_wp2_with fail
    go_ret
    exact ⟨by rw [Hf.out]; rfl, Below.refl _ _⟩
  have he : (s.toList == []) = false := by
    rw [beq_eq_false_iff_ne]
    intro e
    apply h0
    rw [← size_l, ← tl_data, e]; rfl
  by_cases hl : most < s.size
  · have Hf := Lib.hid (Hno.out fun h => by have := h.2.1; omega)
    clear Hno Hyes HT1 HT2 h0 hls hms
    go_enter Tryz.func122, Tryz.ntmps122
    go_wp2_with fail
    go_ret
    exact ⟨by rw [Hf.out]; rfl, Below.refl _ _⟩
  by_cases ht : Lib.trimS s.data.toList ms.data.toList = s.data.toList
  case neg =>
    have Hf := Lib.hid (Hno.out fun h => ht h.2.2.1)
    generalize Lib.trimS s.data.toList ms.data.toList = t at HT1 ht
    have hne : (t == s.toList) = false := beq_eq_false_iff_ne.2 (by rw [tl_data]; exact ht)
    clear Hno Hyes HT2 h0 hls hms ht
    go_enter Tryz.func122, Tryz.ntmps122
    go_wp2_with fail
    refine (HT1.out _).mono ?_
    rintro e w1 ⟨rfl, hb⟩
    go_wp2_with fail
    go_ret
    exact ⟨by rw [Hf.out]; rfl, hb⟩
  have Hmk := Lib.hid (fun (h3 : Lib.trimS s.data.toList (ls.data.toList ++ ms.data.toList) = []) => Hyes.out ⟨by omega, by omega, ht, h3⟩)
  have Hno2 := Lib.hid (fun (h3 : ¬ Lib.trimS s.data.toList (ls.data.toList ++ ms.data.toList) = []) => Hno.out fun h => h3 h.2.2.2)
  generalize Lib.trimS s.data.toList ms.data.toList = t at HT1 ht
  have hne : (t == s.toList) = true := beq_iff_eq.2 (by rw [tl_data]; exact ht)
  clear ht Hno Hyes h0 hls hms
  generalize Lib.trimS s.data.toList (ls.data.toList ++ ms.data.toList) = u at HT2 Hmk Hno2
  by_cases hu : u = []
  · have Hf := Lib.hid (Hmk.out hu)
    subst hu
    clear Hmk Hno2
    go_enter Tryz.func122, Tryz.ntmps122
    go_wp2_with fail
    refine (HT1.out _).mono ?_
    rintro e w1 ⟨rfl, hb⟩
    go_wp2_with fail
    refine (HT2.out _).mono ?_
    rintro e w2 ⟨rfl, hb2⟩
    go_wp2_with fail
    go_ret
    exact ⟨by rw [Hf.out]; rfl, hb.trans (hb2.mono hb.size)⟩
  · have Hf := Lib.hid (Hno2.out hu)
    have hne2 : (u == []) = false := beq_eq_false_iff_ne.2 hu
    clear Hmk Hno2 hu
    go_enter Tryz.func122, Tryz.ntmps122
    go_wp2_with fail
    refine (HT1.out _).mono ?_
    rintro e w1 ⟨rfl, hb⟩
    go_wp2_with fail
    refine (HT2.out _).mono ?_
    rintro e w2 ⟨rfl, hb2⟩
    go_wp2_with fail
    go_ret
    exact ⟨by rw [Hf.out]; rfl, hb.trans (hb2.mono hb.size)⟩
theorem impl_key (s : ByteArray) (w : World) (hs : s.size ≤ 9223372036854775807) :
    Calls Tryz.prog 87 #[.string s] w fun e w' => e = .returned (.bool (yes (KeyP s))) ∧ Below w.heap.size w w' := by
  have H := Lib.hid (impl_id s 30 ⟨allL.toArray⟩ ⟨#[45, 95, 46, 47]⟩ w hs (by decide) (by decide) (by decide) (ascii_of_all (by decide)) (ascii_of_all (by decide)))
  have e : yes (IdP 30 (⟨allL.toArray⟩ : ByteArray).data.toList (⟨#[45, 95, 46, 47]⟩ : ByteArray).data.toList s) = yes (KeyP s) := by
    congr 1; exact propext (key_iff s).symm
  rw [e] at H
  clear e
  generalize yes (KeyP s) = R at H
  unfold allL lowL at H
  go_enter Tryz.func87, Tryz.ntmps87
  go_wp2_with fail
  refine H.out.mono ?_
  rintro e w1 ⟨rfl, hb⟩
  go_wp2_with fail
  go_ret
  exact ⟨rfl, hb⟩
theorem impl_val (s : ByteArray) (w : World) (hs : s.size ≤ 9223372036854775807) :
    Calls Tryz.prog 89 #[.string s] w fun e w' => e = .returned (.bool (yes (ValP s))) ∧ Below w.heap.size w w' := by
  have H := Lib.hid (impl_id s 20 ⟨allL.toArray⟩ ⟨#[45, 95, 46]⟩ w hs (by decide) (by decide) (by decide) (ascii_of_all (by decide)) (ascii_of_all (by decide)))
  by_cases h0 : s.size = 0
  · have Hf := Lib.hid (yes_t (p := ValP s) (.inl h0))
    have he : (s.toList == []) = true := by
      have : s.toList.length = 0 := by rw [tl_data, size_l]; exact h0
      rw [List.eq_nil_of_length_eq_zero this]; rfl
    clear H h0
    go_enter Tryz.func89, Tryz.ntmps89
    go_wp2_with fail
    go_ret
    exact ⟨by rw [Hf.out]; rfl, Below.refl _ _⟩
  have he : (s.toList == []) = false := by
    rw [beq_eq_false_iff_ne]
    intro e
    apply h0
    rw [← size_l, ← tl_data, e]; rfl
  have e : yes (IdP 20 (⟨allL.toArray⟩ : ByteArray).data.toList (⟨#[45, 95, 46]⟩ : ByteArray).data.toList s) = yes (ValP s) := by
    congr 1
    refine propext ?_
    rw [val_iff]
    constructor
    · exact fun h => .inr h
    · rintro (h | h)
      · exact absurd h h0
      · exact h
  rw [e] at H
  clear e h0
  generalize yes (ValP s) = R at H
  unfold allL lowL at H
  go_enter Tryz.func89, Tryz.ntmps89
  go_wp2_with fail
  refine H.out.mono ?_
  rintro e w1 ⟨rfl, hb⟩
  go_wp2_with fail
  go_ret
  exact ⟨rfl, hb⟩
end Go.Proofs.YtdgedclpaplgoaaGreatDoor.lab
namespace Go.Proofs.YtdgedclpaplgoaaGreatDoor.arith
open Go.ChangeShapes Go.WideShapes Go.ChangeAt Go.RowKit
set_option linter.unusedVariables false

theorem impl_cmp (a b : Int) (w : World) :
    Calls Tryz.prog 84 #[.int .i64 a, .int .i64 b] w fun e w' => e = .returned (.int .i64 (cmpF a b)) ∧ w = w' := by
  have hc : (if a < b then (-1 : Int) else if b < a then 1 else 0) = cmpF a b := rfl
  by_cases h1 : a < b
  · rw [if_pos h1] at hc
    rw [← hc]; clear hc
    go_enter Tryz.func84, Tryz.ntmps84
    go_wp2
    all_goals go_ret
    all_goals exact ⟨rfl, rfl⟩
  by_cases h2 : b < a
  · rw [if_neg h1, if_pos h2] at hc
    rw [← hc]; clear hc
    go_enter Tryz.func84, Tryz.ntmps84
    go_wp2
    all_goals go_ret
    all_goals exact ⟨rfl, rfl⟩
  · rw [if_neg h1, if_neg h2] at hc
    rw [← hc]; clear hc
    go_enter Tryz.func84, Tryz.ntmps84
    go_wp2
    all_goals go_ret
    all_goals exact ⟨rfl, rfl⟩
end Go.Proofs.YtdgedclpaplgoaaGreatDoor.arith
namespace Go.Proofs.YtdgedclpaplgoaaGreatDoor
open Go Go.RowKit
set_option linter.unusedVariables false

def Gr (w w' : World) : Prop := ∃ q os, w' = Sort.grow (w.drewN q) os
theorem Gr.refl (w : World) : Gr w w := ⟨0, #[], by rw [Sort.grow_empty]; rfl⟩
theorem Gr.trans {a b c : World} (h : Gr a b) (k : Gr b c) : Gr a c := by
  obtain ⟨q, os, rfl⟩ := h
  obtain ⟨q', os', rfl⟩ := k
  refine ⟨q + q', os ++ os', ?_⟩
  show Sort.grow (Sort.grow ((a.drewN q).drewN q') os) os' = _
  rw [Sort.grow_grow, World.drewN_drewN]
theorem Gr.alloc {a w : World} (h : Gr a w) (o : Obj) : Gr a (w.alloc o) := h.trans ⟨0, #[o], by rw [Sort.alloc_eq_grow]; rfl⟩
theorem Gr.drewN {a w : World} (h : Gr a w) (n : Nat) : Gr a (w.drewN n) := h.trans ⟨n, #[], by rw [Sort.grow_empty]⟩
theorem Gr.drew {a w : World} (h : Gr a w) : Gr a w.drew := h.trans ⟨1, #[], by rw [Sort.grow_empty]; rfl⟩
theorem Gr.below {w w' : World} (h : Gr w w') : Below w.heap.size w w' := by
  obtain ⟨q, os, rfl⟩ := h
  refine ⟨rfl, rfl, rfl, ?_, fun k hk => ?_⟩
  · show w.heap.size ≤ (w.heap ++ os).size
    simp
  · show (w.heap ++ os)[k]? = w.heap[k]?
    rw [Array.getElem?_append_left hk]
structure GrBy (w : World) where
  v : World
  h : Gr w v
def GrBy.start (w : World) : GrBy w := ⟨w.drewN 1, (Gr.refl w).drewN 1⟩
instance (w : World) : Inhabited (GrBy w) := ⟨GrBy.start w⟩
theorem wp_region_quiet_gr {P : Program} {id : Nat} {Q : Exit → Act → World → Prop} {a : Act} {w : World} {l : List Oper} (hm : P.follows .mixedOrders = true) (hB : Region.lexB .any l.toArray = true)
    (h : wpQuiet P l.toArray (fun w' => ∃ p : GrBy w, w' = p.v) (fun a' => ∀ w', (∃ p : GrBy w, w' = p.v) → Q .normal a' w') l a) : (Code.region id l.toArray true).wp P Q a w :=
  wp_region_quiet (C := fun w' => ∃ p : GrBy w, w' = p.v) hm hB ⟨GrBy.start w, rfl⟩ (by simpa using h)
theorem GrBy.cell {w : World} {a : Addr} {v : Value} (hb : a.block < w.heap.size) (h : w.cell? a = some v) (p : GrBy w) : p.v.cell? a = some v :=
  (World.cell?_of_block (p.h.below.block _ hb)).trans h
/-- A callee's contract, met in a world of the class. -/
theorem Calls.gr_of {P : Program} {f : FuncId} {args : Array Value} {w : World} {p : GrBy w} {v : Value}
    (h : Calls P f args p.v fun e w' => e = .returned v ∧ Gr p.v w') : Calls P f args p.v fun e w'' => e = .returned v ∧ ∃ q : GrBy w, w'' = q.v :=
  h.mono fun _ w' ⟨he, hw⟩ => ⟨he, ⟨w', p.h.trans hw⟩, rfl⟩
/-- A contract in the finer form gives the coarser one. -/
theorem gr_below {P : Program} {f : FuncId} {args : Array Value} {w : World} {E : Ending} (h : Calls P f args w fun e w' => e = E ∧ Gr w w') : Calls P f args w fun e w' => e = E ∧ Below w.heap.size w w' :=
  h.mono fun _ _ ⟨he, hg⟩ => ⟨he, hg.below⟩
theorem drew_gr {P : Program} {f : FuncId} {args : Array Value} {w : World} {E : Ending} (h : Calls P f args w fun e w' => e = E ∧ ∃ n, w' = w.drewN n) : Calls P f args w fun e w' => e = E ∧ Gr w w' :=
  h.mono fun _ _ ⟨he, n, hn⟩ => ⟨he, by rw [hn]; exact (Gr.refl w).drewN n⟩
end Go.Proofs.YtdgedclpaplgoaaGreatDoor
