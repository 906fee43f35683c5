/- Merged: ArithM CmpW InS CmpI SqM. -/
import Derived.Test.YtdgedclpaplgoaaDoorRows
import Derived.Test.YtdgedclpaplgoaaDoorGA0
import Derived.ProofKit
import Derived.OpenShut
import Derived.Test.YtdgedclpaplgoaaDoorGA1
namespace Go.Proofs.YtdgedclpaplgoaaDoor.arith
open Go.ChangeShapes Go.WideShapes Go.ChangeAt Go.RowKit
set_option linter.unusedVariables false

/-- The number of a checked result (0 for none) and whether there is one. -/
def val : Option Int → Int
  | some x => x
  | none => 0
def has : Option Int → Bool
  | some _ => true
  | none => false
def two (o : Option Int) : Value := .tuple #[.int .i64 (val o), .bool (has o)]
theorem two_some (x : Int) : two (some x) = .tuple #[.int .i64 x, .bool true] := rfl
theorem two_none : two none = .tuple #[.int .i64 0, .bool false] := rfl

def addF (a b : Int) : Option Int := if 0 ≤ a ∧ 0 ≤ b ∧ a + b ≤ 9223372036854775807 then some (a + b) else none
def subF (a b : Int) : Option Int := if 0 ≤ b ∧ b ≤ a then some (a - b) else none
def mulF (a b : Int) : Option Int := if 0 ≤ a ∧ 0 ≤ b ∧ a * b ≤ 9223372036854775807 then some (a * b) else none
def cmpF (a b : Int) : Int := if a < b then -1 else if b < a then 1 else 0
def powF (b : Int) : Nat → Option Int
  | 0 => some 1
  | k + 1 => (powF b k).bind fun x => mulF x b
def pow2F (b n : Int) : Option Int := if 0 ≤ b ∧ 0 ≤ n ∧ n ≤ 100 then powF b n.toNat else none
def sumStep (o : Option Int) (x : Int) : Option Int := o.bind fun s => addF s x
def sumF (l : List Int) : Option Int := l.foldl sumStep (some 0)

theorem add_yes {a b : Int} (h0 : 0 ≤ a) (h1 : 0 ≤ b) (h2 : a + b ≤ 9223372036854775807) : addF a b = some (a + b) := by unfold addF; rw [if_pos ⟨h0, h1, h2⟩]
theorem add_no {a b : Int} (h : ¬ (0 ≤ a ∧ 0 ≤ b ∧ a + b ≤ 9223372036854775807)) : addF a b = none := by unfold addF; rw [if_neg h]
theorem add_bd {a b x : Int} (h : addF a b = some x) : 0 ≤ a ∧ 0 ≤ b ∧ x = a + b ∧ x ≤ 9223372036854775807 := by
  unfold addF at h
  split at h
  · injection h with h; rename_i h2; exact ⟨h2.1, h2.2.1, h.symm, h ▸ h2.2.2⟩
  · cases h
theorem sub_yes {a b : Int} (h0 : 0 ≤ b) (h1 : b ≤ a) : subF a b = some (a - b) := by unfold subF; rw [if_pos ⟨h0, h1⟩]
theorem sub_no {a b : Int} (h : ¬ (0 ≤ b ∧ b ≤ a)) : subF a b = none := by unfold subF; rw [if_neg h]
theorem mul_yes {a b : Int} (h0 : 0 ≤ a) (h1 : 0 ≤ b) (h2 : a * b ≤ 9223372036854775807) : mulF a b = some (a * b) := by unfold mulF; rw [if_pos ⟨h0, h1, h2⟩]
theorem mul_no {a b : Int} (h : ¬ (0 ≤ a ∧ 0 ≤ b ∧ a * b ≤ 9223372036854775807)) : mulF a b = none := by unfold mulF; rw [if_neg h]
theorem mul_bd {a b x : Int} (h : mulF a b = some x) : 0 ≤ a ∧ 0 ≤ b ∧ x = a * b ∧ 0 ≤ x ∧ x ≤ 9223372036854775807 := by
  unfold mulF at h
  split at h
  · injection h with h; rename_i h2; exact ⟨h2.1, h2.2.1, h.symm, h ▸ Int.mul_nonneg h2.1 h2.2.1, h ▸ h2.2.2⟩
  · cases h
/-- Room for a product, as the division by b tells it. -/
theorem room {a b : Int} (h1 : 0 < b) : a ≤ 9223372036854775807 / b ↔ a * b ≤ 9223372036854775807 := Int.le_ediv_iff_mul_le h1

theorem pow_zero (b : Int) : powF b 0 = some 1 := rfl
theorem pow_some {b x : Int} {k : Nat} (h : powF b k = some x) : powF b (k + 1) = mulF x b := by show (powF b k).bind _ = _; rw [h]; rfl
theorem pow_none {b : Int} {k : Nat} (h : powF b k = none) : powF b (k + 1) = none := by show (powF b k).bind _ = _; rw [h]; rfl
theorem pow_dead {b : Int} {k : Nat} (h : powF b k = none) : ∀ n, k ≤ n → powF b n = none := by
  intro n hn
  induction n with
  | zero => obtain rfl : k = 0 := by omega
            exact h
  | succ n ih =>
    by_cases e : k = n + 1
    · subst e; exact h
    · exact pow_none (ih (by omega))
theorem pow_bd {b x : Int} {k : Nat} (h : powF b k = some x) : 0 ≤ x ∧ x ≤ 9223372036854775807 := by
  cases k with
  | zero => injection h with h; omega
  | succ k =>
    cases hp : powF b k with
    | none => rw [pow_none hp] at h; cases h
    | some y => rw [pow_some hp] at h; exact (mul_bd h).2.2.2
theorem pow2_yes {b : Int} {n : Nat} (h0 : 0 ≤ b) (h1 : n ≤ 100) : pow2F b n = powF b n := by unfold pow2F; rw [if_pos ⟨h0, by omega, by omega⟩]; rfl
theorem pow2_no {b n : Int} (h : ¬ (0 ≤ b ∧ 0 ≤ n ∧ n ≤ 100)) : pow2F b n = none := by unfold pow2F; rw [if_neg h]

theorem sum_zero (l : List Int) : sumF (l.take 0) = some 0 := by simp [sumF]
theorem sum_take {l : List Int} {k : Nat} (hk : k < l.length) : sumF (l.take (k + 1)) = (sumF (l.take k)).bind fun s => addF s (l.getD k 0) := by
  rw [List.take_succ_eq_append_getElem hk]
  unfold sumF
  rw [List.foldl_append, List.getD_eq_getElem?_getD, List.getElem?_eq_getElem hk]
  rfl
theorem sum_go {l : List Int} {k : Nat} {s : Int} (hk : k < l.length) (h : sumF (l.take k) = some s) : sumF (l.take (k + 1)) = addF s (l.getD k 0) := by rw [sum_take hk, h]; rfl
theorem sum_dead {l : List Int} {k : Nat} (h : sumF (l.take k) = none) : sumF l = none := by
  have e : sumF l = (l.drop k).foldl sumStep (sumF (l.take k)) := by
    unfold sumF
    rw [← List.foldl_append, List.take_append_drop]
  rw [e, h]
  clear e h
  induction l.drop k with
  | nil => rfl
  | cons a r ih => exact ih
theorem sum_bd : ∀ (k : Nat) {l : List Int} {s : Int}, k ≤ l.length → sumF (l.take k) = some s → 0 ≤ s ∧ s ≤ 9223372036854775807
  | 0, l, s, _, h => by rw [sum_zero] at h; injection h with h; omega
  | k + 1, l, s, hk, h => by
    cases hp : sumF (l.take k) with
    | none => rw [sum_take (by omega), hp] at h; cases h
    | some y =>
      rw [sum_go (by omega) hp] at h
      have := sum_bd k (by omega) hp
      have := add_bd h
      omega

end Go.Proofs.YtdgedclpaplgoaaDoor.arith
namespace Go.Proofs.YtdgedclpaplgoaaDoor
open Go Go.RowKit
set_option linter.unusedVariables false
/-- A comparison by a number goes by an order. -/
def CmpWay {α : Type} (c : α → α → Int) (lt : α → α → Bool) : Prop := ∀ a b, (c a b = 0 ∧ a = b) ∨ (c a b < 0 ∧ a ≠ b ∧ lt a b = true) ∨ (0 < c a b ∧ a ≠ b ∧ lt a b = false)
section
variable {α : Type} {c : α → α → Int} {lt : α → α → Bool}
theorem CmpWay.less (h : CmpWay c lt) (o : dedup.Ord lt) (a b : α) : decide (c a b < 0) = lt a b := by
  rcases h a b with ⟨h1, h2⟩ | ⟨h1, _, h3⟩ | ⟨h1, _, h3⟩
  · subst h2; rw [h1, o.irr]; rfl
  · rw [h3]; exact decide_eq_true h1
  · rw [h3]; exact decide_eq_false (by omega)
theorem CmpWay.zero (h : CmpWay c lt) (a b : α) : (c a b == 0) = lab.yes (a = b) := by
  rcases h a b with ⟨h1, h2⟩ | ⟨h1, h2, h3⟩ | ⟨h1, h2, h3⟩
  · rw [lab.yes_t h2, h1]; rfl
  · rw [lab.yes_f h2]; exact beq_eq_false_iff_ne.2 (by omega)
  · rw [lab.yes_f h2]; exact beq_eq_false_iff_ne.2 (by omega)
theorem ord_nt (o : dedup.Ord lt) (a b c : α) (h1 : lt a b = false) (h2 : lt b c = false) : lt a c = false := by
  cases h : lt a c with
  | false => rfl
  | true =>
    exfalso
    by_cases hba : lt b a = true
    · have := o.tr b a c hba h
      rw [h2] at this; cases this
    · have hba : lt b a = false := by simpa using hba
      rw [o.tot a b h1 hba, h2] at h
      cases h
end
end Go.Proofs.YtdgedclpaplgoaaDoor
namespace Go.Proofs.YtdgedclpaplgoaaDoor.arith
open Go.ChangeShapes Go.WideShapes Go.ChangeAt Go.RowKit
set_option linter.unusedVariables false

theorem in_yes (x l m : Int) (w : World) (h1 : l ≤ x) (h2 : x ≤ m) :
    Calls Tryd.prog 132 #[.int .i64 x, .int .i64 l, .int .i64 m] w fun e w' => e = .returned (.bool true) ∧ w = w' := by
  go_enter Tryd.func132, Tryd.ntmps132
  go_wp2
  all_goals go_ret
  all_goals exact ⟨rfl, rfl⟩
theorem in_no (x l m : Int) (w : World) (h : x < l ∨ m < x) :
    Calls Tryd.prog 132 #[.int .i64 x, .int .i64 l, .int .i64 m] w fun e w' => e = .returned (.bool false) ∧ w = w' := by
  by_cases h1 : x < l
  · go_enter Tryd.func132, Tryd.ntmps132
    go_wp2
    all_goals go_ret
    all_goals exact ⟨rfl, rfl⟩
  · have h2 : m < x := by omega
    have hd : decide (x ≤ m) = false := by simp; omega
    go_enter Tryd.func132, Tryd.ntmps132
    go_wp2
    all_goals go_ret
    all_goals exact ⟨rfl, rfl⟩
end Go.Proofs.YtdgedclpaplgoaaDoor.arith
namespace Go.Proofs.YtdgedclpaplgoaaDoor.arith
open Go.ChangeShapes Go.WideShapes Go.ChangeAt Go.RowKit
set_option linter.unusedVariables false

theorem impl_cmp (a b : Int) (w : World) :
    Calls Tryd.prog 136 #[.int .i64 a, .int .i64 b] w fun e w' => e = .returned (.int .i64 (cmpF a b)) ∧ w = w' := by
  have hc : (if a < b then (-1 : Int) else if b < a then 1 else 0) = cmpF a b := rfl
  by_cases h1 : a < b
  · rw [if_pos h1] at hc
    rw [← hc]; clear hc
    go_enter Tryd.func136, Tryd.ntmps136
    go_wp2
    all_goals go_ret
    all_goals exact ⟨rfl, rfl⟩
  by_cases h2 : b < a
  · rw [if_neg h1, if_pos h2] at hc
    rw [← hc]; clear hc
    go_enter Tryd.func136, Tryd.ntmps136
    go_wp2
    all_goals go_ret
    all_goals exact ⟨rfl, rfl⟩
  · rw [if_neg h1, if_neg h2] at hc
    rw [← hc]; clear hc
    go_enter Tryd.func136, Tryd.ntmps136
    go_wp2
    all_goals go_ret
    all_goals exact ⟨rfl, rfl⟩
end Go.Proofs.YtdgedclpaplgoaaDoor.arith
namespace Go.Proofs.YtdgedclpaplgoaaDoor.dedup
open Go Go.RowKit
set_option linter.unusedVariables false
variable {α β : Type}

open Classical in
noncomputable def sqTo (κ : α → β) (l : List α) : Nat → List α
  | 0 => []
  | j + 1 => if h : j < l.length then (if ∃ m, ∃ hm : m + 1 = j, κ l[j] = κ (l[m]'(by omega)) then sqTo κ l j else sqTo κ l j ++ [l[j]]) else sqTo κ l j
theorem sq_same {κ : α → β} {l : List α} {m : Nat} (h : m + 1 < l.length) (he : κ l[m + 1] = κ l[m]) : sqTo κ l (m + 2) = sqTo κ l (m + 1) := by
  rw [sqTo, dif_pos h, if_pos ⟨m, rfl, he⟩]
theorem sq_next {κ : α → β} {l : List α} {m : Nat} (h : m + 1 < l.length) (he : κ l[m + 1] ≠ κ l[m]) : sqTo κ l (m + 2) = sqTo κ l (m + 1) ++ [l[m + 1]] := by
  rw [sqTo, dif_pos h, if_neg]
  rintro ⟨m', hm, e⟩
  obtain rfl : m' = m := by omega
  exact he e
theorem sq_one {κ : α → β} {l : List α} (h : 0 < l.length) : sqTo κ l 1 = [l[0]] := by
  rw [sqTo, dif_pos h, if_neg]
  · rfl
  · rintro ⟨m', hm, _⟩
    omega
theorem sq_length (κ : α → β) (l : List α) : ∀ j, (sqTo κ l j).length ≤ j
  | 0 => Nat.le_refl _
  | j + 1 => by
    have ih := sq_length κ l j
    rw [sqTo]
    split
    · split
      · omega
      · simp; omega
    · omega
/-- As long as no element stands beside its like, all of them. -/
theorem sq_take {κ : α → β} {l : List α} : ∀ {j : Nat}, j ≤ l.length → (∀ m (h : m + 1 < l.length), m + 1 < j → κ l[m + 1] ≠ κ l[m]) → sqTo κ l j = l.take j
  | 0, _, _ => rfl
  | 1, h, _ => by
    rw [sq_one (by omega)]
    match l, h with
    | x :: r, _ => rfl
  | j + 2, h, hn => by
    rw [sq_next (by omega) (hn j (by omega) (by omega)), sq_take (j := j + 1) (by omega) (fun m hm hj => hn m hm (by omega))]
    rw [List.take_succ_eq_append_getElem (by omega)]
    simp
theorem sq_map (κ : α → β) (l : List α) : ∀ j, (sqTo κ l j).map κ = sqTo id (l.map κ) j
  | 0 => rfl
  | j + 1 => by
    have ih := sq_map κ l j
    rw [sqTo, sqTo]
    by_cases h : j < l.length
    · rw [dif_pos h, dif_pos (by simpa using h)]
      by_cases he : ∃ m, ∃ hm : m + 1 = j, κ l[j] = κ (l[m]'(by omega))
      · rw [if_pos he, if_pos (by obtain ⟨m, hm, e⟩ := he; exact ⟨m, hm, by simpa using e⟩)]
        exact ih
      · rw [if_neg he, if_neg (by rintro ⟨m, hm, e⟩; exact he ⟨m, hm, by simpa using e⟩), List.map_append, ih]
        simp
    · rw [dif_neg h, dif_neg (by simpa using h)]
      exact ih
theorem sq_sub (κ : α → β) (l : List α) : ∀ j, j ≤ l.length → (sqTo κ l j).Sublist (l.take j)
  | 0, _ => List.nil_sublist _
  | j + 1, h => by
    have ih := sq_sub κ l j (by omega)
    rw [sqTo, dif_pos (by omega), List.take_succ_eq_append_getElem (by omega)]
    split
    · exact ih.trans (List.sublist_append_left _ _)
    · exact ih.append (List.Sublist.refl _)
theorem sq_mem (l : List α) : ∀ j, j ≤ l.length → ∀ y, y ∈ sqTo id l j ↔ y ∈ l.take j
  | 0, _, y => by simp [sqTo]
  | 1, h, y => by
    rw [sq_one (by omega)]
    match l, h with
    | x :: r, _ => simp
  | j + 2, h, y => by
    have ih := sq_mem l (j + 1) (by omega) y
    rw [List.take_succ_eq_append_getElem (by omega), List.mem_append, ← ih]
    by_cases he : l[j + 1] = l[j]
    · rw [sq_same (κ := id) (by omega) he, he]
      constructor
      · exact .inl
      · rintro (h1 | h1)
        · exact h1
        · obtain rfl : y = l[j] := by simpa using h1
          refine (sq_mem l (j + 1) (by omega) _).2 ?_
          rw [List.take_succ_eq_append_getElem (by omega)]
          exact List.mem_append.2 (.inr (List.mem_singleton.2 rfl))
    · rw [sq_next (κ := id) (by omega) he, List.mem_append]
theorem sq_asc {lt : α → α → Bool} (o : Ord lt) {l : List α} (hw : l.Pairwise fun a b => lt b a = false) : ∀ j, j ≤ l.length → Asc lt (sqTo id l j)
  | 0, _ => List.Pairwise.nil
  | 1, h => by rw [sq_one (by omega)]; exact List.pairwise_singleton _ _
  | j + 2, h => by
    have ih := sq_asc o hw (j + 1) (by omega)
    by_cases he : l[j + 1] = l[j]
    · rw [sq_same (κ := id) (by omega) he]; exact ih
    · rw [sq_next (κ := id) (by omega) he]
      refine List.pairwise_append.2 ⟨ih, List.pairwise_singleton _ _, fun a ha b hb => ?_⟩
      obtain rfl : b = l[j + 1] := by simpa using hb
      rw [sq_mem l (j + 1) (by omega)] at ha
      obtain ⟨i, hi, rfl⟩ := List.getElem_of_mem ha
      have hi1 : i < j + 1 := by rw [List.length_take] at hi; omega
      rw [List.getElem_take]
      rw [List.pairwise_iff_getElem] at hw
      have hlt : lt l[j] l[j + 1] = true := by
        cases hc : lt l[j] l[j + 1] with
        | true => rfl
        | false => exact absurd (o.tot _ _ hc (hw j (j + 1) (by omega) (by omega) (by omega))).symm he
      by_cases e : i = j
      · subst e; exact hlt
      · have h3 := hw i j (by omega) (by omega) (by omega)
        cases hc : lt l[i] l[j] with
        | true => exact o.tr _ _ _ hc hlt
        | false =>
          have := o.tot _ _ hc h3
          rw [this]; exact hlt
/-- Sorted, then without repetitions: each element once, in order. -/
theorem sq_dsort {lt : α → α → Bool} (o : Ord lt) {l d : List α} (hp : List.Perm d l) (hw : d.Pairwise fun a b => lt b a = false) : sqTo id d d.length = dsort lt l :=
  dsort_is o l _ (sq_asc o hw _ (Nat.le_refl _)) fun y => by rw [sq_mem d _ (Nat.le_refl _), List.take_length]; exact hp.mem_iff
/-- Where the second loop of slices.CompactFunc stands: j elements seen, kk kept. -/
structure Comp (κ : α → β) (l : List α) (j kk : Nat) (dk : List α) : Prop where
  len : dk.length = l.length
  out : dk.take kk = sqTo κ l j
  klen : (sqTo κ l j).length = kk
  lt : kk < j
  le : j ≤ l.length
  high : ∀ i (h : i < dk.length) (h2 : i < l.length), j ≤ i + 1 → dk[i] = l[i]
theorem Comp.start {κ : α → β} {l : List α} {m : Nat} (h : m + 1 < l.length) (hn : ∀ q (h : q + 1 < l.length), q + 1 < m + 1 → κ l[q + 1] ≠ κ l[q]) (he : κ l[m + 1] = κ l[m]) : Comp κ l (m + 2) (m + 1) l := by
  have e : sqTo κ l (m + 2) = l.take (m + 1) := by rw [sq_same h he, sq_take (by omega) hn]
  exact ⟨rfl, e.symm, by rw [e, List.length_take]; omega, by omega, by omega, fun i _ _ _ => rfl⟩
theorem Comp.skip {κ : α → β} {l dk : List α} {m kk : Nat} (c : Comp κ l (m + 1) kk dk) (h : m + 1 < l.length) (he : κ l[m + 1] = κ l[m]) : Comp κ l (m + 2) kk dk := by
  have e := sq_same h he
  exact ⟨c.len, by rw [e]; exact c.out, by rw [e]; exact c.klen, by have := c.lt; omega, by omega, fun i h1 h2 h3 => c.high i h1 h2 (by omega)⟩
theorem Comp.keep {κ : α → β} {l dk : List α} {m kk : Nat} (c : Comp κ l (m + 1) kk dk) (h : m + 1 < l.length) (he : κ l[m + 1] ≠ κ l[m]) : Comp κ l (m + 2) (kk + 1) (dk.set kk l[m + 1]) := by
  have e := sq_next h he
  have h1 := c.lt
  have h2 := c.len
  refine ⟨by simp [h2], ?_, by rw [e, List.length_append, c.klen]; rfl, by omega, by omega, fun i i1 i2 i3 => ?_⟩
  · rw [e, ← c.out, List.take_succ_eq_append_getElem (by simp; omega), List.getElem_set_self]
    congr 1
    rw [List.take_set_of_le (by omega)]
  · rw [List.getElem_set_ne (by omega)]
    exact c.high i _ i2 (by omega)
theorem sq_all {κ : α → β} {l : List α} (hn : ∀ q (h : q + 1 < l.length), κ l[q + 1] ≠ κ l[q]) : sqTo κ l l.length = l := by
  rw [sq_take (Nat.le_refl _) (fun q h _ => hn q h), List.take_length]
end Go.Proofs.YtdgedclpaplgoaaDoor.dedup
