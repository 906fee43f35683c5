/- Merged: DedupM TaintM ArithM CmpBM CmpW TaintC TrimP TolM TlrM UntM SumD. -/
import Derived.Test.YtpadpiibiocabaaDoorBase
import Derived.Test.YtpadpiibiocabaaDoorGTn
import Derived.Test.YtpadpiibiocabaaDoorGLabP
import Derived.Test.YtpadpiibiocabaaDoorRows
import Derived.ProofKit
import Derived.OpenShut
import Derived.Lib.Bytealg
import Derived.Lib.SlTrimSet
import Derived.Test.YtpadpiibiocabaaDoorGPre
namespace Go.Proofs.YtpadpiibiocabaaDoor.dedup
open Go Go.RowKit
set_option linter.unusedVariables false
variable {α : Type}

def insD (lt : α → α → Bool) (x : α) : List α → List α
  | [] => [x]
  | y :: r => if lt y x = true then y :: insD lt x r else if lt x y = true then x :: y :: r else y :: r
/-- The elements in order, each once. -/
def dsort (lt : α → α → Bool) (l : List α) : List α := l.foldl (fun acc x => insD lt x acc) []
theorem dsort_snoc (lt : α → α → Bool) (l : List α) (x : α) : dsort lt (l ++ [x]) = insD lt x (dsort lt l) := by
  unfold dsort
  rw [List.foldl_append]
  rfl
theorem insD_stay {lt : α → α → Bool} {x : α} : ∀ {S : List α} {k : Nat} (hk : k < S.length), (∀ q (h : q < k), lt (S[q]'(by omega)) x = true) → lt S[k] x = false → lt x S[k] = false → insD lt x S = S
  | [], _, hk, _, _, _ => by simp at hk
  | y :: r, 0, _, _, h2, h3 => by
    simp only [List.getElem_cons_zero] at h2 h3
    rw [insD, if_neg (by rw [h2]; simp), if_neg (by rw [h3]; simp)]
  | y :: r, k + 1, hk, h1, h2, h3 => by
    have h0 := h1 0 (by omega)
    simp only [List.getElem_cons_zero] at h0
    rw [insD, if_pos h0, insD_stay (S := r) (k := k) (by simpa using hk) (fun q h => by have := h1 (q + 1) (by omega); simpa using this) (by simpa using h2) (by simpa using h3)]
theorem insD_put {lt : α → α → Bool} {x : α} : ∀ {S : List α} {k : Nat} (hk : k ≤ S.length), (∀ q (h : q < k), lt (S[q]'(by omega)) x = true) → (∀ h : k < S.length, lt S[k] x = false ∧ lt x S[k] = true) → insD lt x S = S.take k ++ x :: S.drop k
  | [], k, hk, _, _ => by
    have : k = 0 := by simpa using hk
    subst this
    rfl
  | y :: r, 0, _, _, h2 => by
    obtain ⟨h2, h3⟩ := h2 (by simp)
    simp only [List.getElem_cons_zero] at h2 h3
    rw [insD, if_neg (by rw [h2]; simp), if_pos h3]
    rfl
  | y :: r, k + 1, hk, h1, h2 => by
    have h0 := h1 0 (by omega)
    simp only [List.getElem_cons_zero] at h0
    rw [insD, if_pos h0, insD_put (S := r) (k := k) (by simpa using hk) (fun q h => by have := h1 (q + 1) (by omega); simpa using this) (fun h => by have := h2 (by simpa using h); simpa using this)]
    rfl
theorem insD_length (lt : α → α → Bool) (x : α) : ∀ S : List α, (insD lt x S).length ≤ S.length + 1
  | [] => Nat.le_refl _
  | y :: r => by
    have ih := insD_length lt x r
    rw [insD]
    split
    · simp only [List.length_cons]; omega
    split <;> simp
theorem insD_sub (lt : α → α → Bool) (x : α) : ∀ (S : List α) (y : α), y ∈ insD lt x S → y = x ∨ y ∈ S
  | [], y, h => by left; simpa [insD] using h
  | z :: r, y, h => by
    rw [insD] at h
    split at h
    · rcases List.mem_cons.1 h with rfl | h
      · exact .inr List.mem_cons_self
      · exact (insD_sub lt x r y h).imp id (List.mem_cons_of_mem _)
    split at h
    · rcases List.mem_cons.1 h with rfl | h
      · exact .inl rfl
      · exact .inr h
    · exact .inr h
theorem dsort_length (lt : α → α → Bool) (l : List α) : (dsort lt l).length ≤ l.length := by
  suffices h : ∀ (l acc : List α), (l.foldl (fun acc x => insD lt x acc) acc).length ≤ acc.length + l.length by simpa [dsort] using h l []
  intro l
  induction l with
  | nil => intro acc; simp
  | cons x l ih =>
    intro acc
    have h1 := ih (insD lt x acc)
    have h2 := insD_length lt x acc
    simp only [List.foldl_cons, List.length_cons]
    omega
theorem dsort_sub (lt : α → α → Bool) (l : List α) : ∀ y ∈ dsort lt l, y ∈ l := by
  suffices h : ∀ (l acc : List α) (y : α), y ∈ l.foldl (fun acc x => insD lt x acc) acc → y ∈ acc ∨ y ∈ l from fun y hy => by simpa using h l [] y hy
  intro l
  induction l with
  | nil => intro acc y h; exact .inl h
  | cons x l ih =>
    intro acc y h
    rcases ih _ _ h with h | h
    · rcases insD_sub lt x acc y h with rfl | h
      · exact .inr List.mem_cons_self
      · exact .inl h
    · exact .inr (List.mem_cons_of_mem _ h)
/-- An order in which of two that differ one is less. -/
structure Ord (lt : α → α → Bool) : Prop where
  irr : ∀ a, lt a a = false
  tot : ∀ a b, lt a b = false → lt b a = false → a = b
  tr : ∀ a b c, lt a b = true → lt b c = true → lt a c = true
def Asc (lt : α → α → Bool) (l : List α) : Prop := l.Pairwise fun a b => lt a b = true
theorem insD_has {lt : α → α → Bool} (o : Ord lt) (x : α) : ∀ S : List α, x ∈ insD lt x S ∧ ∀ y ∈ S, y ∈ insD lt x S
  | [] => ⟨by simp [insD], fun y h => by cases h⟩
  | z :: r => by
    obtain ⟨h1, h2⟩ := insD_has o x r
    rw [insD]
    split
    · refine ⟨List.mem_cons_of_mem _ h1, fun y hy => ?_⟩
      rcases List.mem_cons.1 hy with rfl | hy
      · exact List.mem_cons_self
      · exact List.mem_cons_of_mem _ (h2 y hy)
    split
    · exact ⟨List.mem_cons_self, fun y hy => List.mem_cons_of_mem _ hy⟩
    · rename_i a b
      have : z = x := o.tot _ _ (by simpa using a) (by simpa using b)
      subst this
      exact ⟨List.mem_cons_self, fun y hy => hy⟩
theorem insD_asc {lt : α → α → Bool} (o : Ord lt) (x : α) : ∀ S : List α, Asc lt S → Asc lt (insD lt x S)
  | [], _ => by simp [insD, Asc]
  | z :: r, h => by
    obtain ⟨h1, h2⟩ := List.pairwise_cons.1 h
    rw [insD]
    split
    · rename_i a
      refine List.pairwise_cons.2 ⟨fun y hy => ?_, insD_asc o x r h2⟩
      rcases insD_sub lt x r y hy with rfl | hy
      · exact a
      · exact h1 y hy
    split
    · rename_i a b
      refine List.pairwise_cons.2 ⟨fun y hy => ?_, h⟩
      rcases List.mem_cons.1 hy with rfl | hy
      · exact b
      · exact o.tr _ _ _ b (h1 y hy)
    · exact h
theorem dsort_all {lt : α → α → Bool} (o : Ord lt) (l : List α) : Asc lt (dsort lt l) ∧ ∀ y, y ∈ dsort lt l ↔ y ∈ l := by
  refine ⟨?_, fun y => ⟨dsort_sub lt l y, ?_⟩⟩
  · suffices h : ∀ (l acc : List α), Asc lt acc → Asc lt (l.foldl (fun acc x => insD lt x acc) acc) from h l [] List.Pairwise.nil
    intro l
    induction l with
    | nil => intro acc h; exact h
    | cons x l ih => intro acc h; exact ih _ (insD_asc o x acc h)
  · suffices h : ∀ (l acc : List α) (y : α), y ∈ acc ∨ y ∈ l → y ∈ l.foldl (fun acc x => insD lt x acc) acc from fun hy => h l [] y (.inr hy)
    intro l
    induction l with
    | nil => intro acc y h; exact h.elim id (fun h => by cases h)
    | cons x l ih =>
      intro acc y h
      refine ih _ y ?_
      obtain ⟨h1, h2⟩ := insD_has o x acc
      rcases h with h | h
      · exact .inl (h2 y h)
      · rcases List.mem_cons.1 h with rfl | h
        · exact .inl h1
        · exact .inr h
theorem asc_same {lt : α → α → Bool} (o : Ord lt) : ∀ a b : List α, Asc lt a → Asc lt b → (∀ y, y ∈ a ↔ y ∈ b) → a = b
  | [], [], _, _, _ => rfl
  | [], y :: b, _, _, h => absurd ((h y).2 List.mem_cons_self) (by simp)
  | x :: a, [], _, _, h => absurd ((h x).1 List.mem_cons_self) (by simp)
  | x :: a, y :: b, ha, hb, h => by
    obtain ⟨ha1, ha2⟩ := List.pairwise_cons.1 ha
    obtain ⟨hb1, hb2⟩ := List.pairwise_cons.1 hb
    have no : ∀ u v, lt u v = true → lt v u = true → False := fun u v h1 h2 => by
      have := o.tr _ _ _ h1 h2
      rw [o.irr] at this
      cases this
    have e : x = y := by
      rcases List.mem_cons.1 ((h x).1 List.mem_cons_self) with e | h1
      · exact e
      rcases List.mem_cons.1 ((h y).2 List.mem_cons_self) with e | h2
      · exact e.symm
      exact (no _ _ (ha1 _ h2) (hb1 _ h1)).elim
    subst e
    rw [asc_same o a b ha2 hb2 fun z => ?_]
    constructor
    · intro hz
      rcases List.mem_cons.1 ((h z).1 (List.mem_cons_of_mem _ hz)) with rfl | h1
      · have := ha1 _ hz
        rw [o.irr] at this
        cases this
      · exact h1
    · intro hz
      rcases List.mem_cons.1 ((h z).2 (List.mem_cons_of_mem _ hz)) with rfl | h1
      · have := hb1 _ hz
        rw [o.irr] at this
        cases this
      · exact h1
/-- Whoever puts the elements in order, each once, gives this list. -/
theorem dsort_is {lt : α → α → Bool} (o : Ord lt) (l r : List α) (h1 : Asc lt r) (h2 : ∀ y, y ∈ r ↔ y ∈ l) : r = dsort lt l :=
  asc_same o _ _ h1 (dsort_all o l).1 fun y => (h2 y).trans ((dsort_all o l).2 y).symm
/-- A list in order stands as it is. -/
theorem dsort_asc {lt : α → α → Bool} (o : Ord lt) (l : List α) (h : Asc lt l) : dsort lt l = l := (dsort_is o l l h fun y => Iff.rfl).symm
end Go.Proofs.YtpadpiibiocabaaDoor.dedup
namespace Go.Proofs.YtpadpiibiocabaaDoor.taint
open Go Go.RowKit ty lab dedup
set_option linter.unusedVariables false

/-! Lists that are right as far as k, over any check and order. -/
section
variable {α : Type} {P : α → Prop} {lt : α → α → Bool}
def GoodL (P : α → Prop) (lt : α → α → Bool) (l : List α) (k : Nat) : Prop := ∀ i (h : i < l.length), i < k → P l[i] ∧ ∀ m (hm : m + 1 = i), lt (l[m]'(by omega)) l[i] = true
theorem goodL_next {l : List α} {k : Nat} (h : GoodL P lt l k) (hk : k < l.length) (h2 : P l[k]) (h3 : ∀ m (hm : m + 1 = k), lt (l[m]'(by omega)) l[k] = true) : GoodL P lt l (k + 1) := fun i hi hik => by
  by_cases e : i = k
  · subst e; exact ⟨h2, h3⟩
  · exact h i hi (by omega)
theorem goodL_zero (l : List α) : GoodL P lt l 0 := fun i _ h => absurd h (Nat.not_lt_zero _)
theorem goodL_asc (o : Ord lt) {l : List α} (h : GoodL P lt l l.length) : Asc lt l := by
  unfold Asc
  rw [List.pairwise_iff_getElem]
  intro i j hi hj hij
  induction j with
  | zero => omega
  | succ j ih =>
    have hs := (h (j + 1) hj hj).2 j rfl
    by_cases e : i = j
    · subst e; exact hs
    · exact o.tr _ _ _ (ih (by omega) (by omega)) hs
theorem goodL_all {l : List α} (h : GoodL P lt l l.length) : ∀ x ∈ l, P x := fun x hx => by
  obtain ⟨i, hi, rfl⟩ := List.getElem_of_mem hx
  exact (h i hi hi).1
open Classical in
/-- Put in order, each once; or the list as it was. -/
noncomputable def sortL (P : List α → Prop) (lt : α → α → Bool) (l : List α) : List α × Bool := if l.length ≤ 40 ∧ P (dsort lt l) then (dsort lt l, true) else (l, false)
theorem sortL_yes {P : List α → Prop} {l : List α} (h : l.length ≤ 40 ∧ P (dsort lt l)) : sortL P lt l = (dsort lt l, true) := by unfold sortL; rw [if_pos h]
theorem sortL_no {P : List α → Prop} {l : List α} (h : ¬ (l.length ≤ 40 ∧ P (dsort lt l))) : sortL P lt l = (l, false) := by unfold sortL; rw [if_neg h]
theorem sortL_cases (P : List α → Prop) (l : List α) : sortL P lt l = (l, false) ∨ (sortL P lt l = (dsort lt l, true) ∧ P (dsort lt l)) := by
  by_cases h : l.length ≤ 40 ∧ P (dsort lt l)
  · exact .inr ⟨sortL_yes h, h.2⟩
  · exact .inl (sortL_no h)
theorem sortL_len {P : List α → Prop} {l : List α} {n : Nat} (h : l.length ≤ n) : (sortL P lt l).1.length ≤ n := by
  rcases sortL_cases (lt := lt) P l with e | ⟨e, _⟩ <;> rw [e]
  · exact h
  · exact Nat.le_trans (dsort_length _ _) h
theorem sortL_sub {P : List α → Prop} {l : List α} : ∀ x ∈ (sortL P lt l).1, x ∈ l := fun x hx => by
  rcases sortL_cases (lt := lt) P l with e | ⟨e, _⟩ <;> rw [e] at hx
  · exact hx
  · exact dsort_sub _ _ x hx
end

/-! Taints. -/
structure TaintP (x : Taint) : Prop where
  key : KeyP x.key
  value : ValP x.value
  lo : 1 ≤ x.effect
  hi : x.effect ≤ 2
def lessT (a b : Taint) : Bool := if a.key = b.key then (if a.value = b.value then decide (a.effect < b.effect) else lessB a.value b.value) else lessB a.key b.key
theorem lessB_irr' (a : ByteArray) : lessB a a = false := less_irr _
theorem lessB_tr' (a b c : ByteArray) (h1 : lessB a b = true) (h2 : lessB b c = true) : lessB a c = true := less_trans _ _ _ h1 h2
theorem lessB_ne' {a b : ByteArray} (h : lessB a b = true) : a ≠ b := fun e => by rw [e, lessB_irr'] at h; cases h
theorem lessB_tot' (a b : ByteArray) (h1 : lessB a b = false) (h2 : lessB b a = false) : a = b := key_same h1 h2
/-- One key ahead of another order. -/
def lexB {β : Type} (f : β → ByteArray) (r : β → β → Bool) (a b : β) : Bool := if f a = f b then r a b else lessB (f a) (f b)
theorem lexB_ord {β : Type} (f : β → ByteArray) (r : β → β → Bool) (irr : ∀ a, r a a = false) (tot : ∀ a b, f a = f b → r a b = false → r b a = false → a = b) (tr : ∀ a b c, r a b = true → r b c = true → r a c = true) : Ord (lexB f r) := by
  refine ⟨fun a => ?_, fun a b h1 h2 => ?_, fun a b c h1 h2 => ?_⟩
  · unfold lexB; rw [if_pos rfl]; exact irr a
  · unfold lexB at h1 h2
    by_cases e : f a = f b
    · rw [if_pos e] at h1
      rw [if_pos e.symm] at h2
      exact tot a b e h1 h2
    · rw [if_neg e] at h1
      rw [if_neg (fun h => e h.symm)] at h2
      exact absurd (lessB_tot' _ _ h1 h2) e
  · unfold lexB at h1 h2 ⊢
    by_cases e1 : f a = f b
    · rw [if_pos e1] at h1
      by_cases e2 : f b = f c
      · rw [if_pos e2] at h2
        rw [if_pos (e1.trans e2)]
        exact tr _ _ _ h1 h2
      · rw [if_neg e2] at h2
        rw [if_neg (by rw [e1]; exact e2), e1]
        exact h2
    · rw [if_neg e1] at h1
      by_cases e2 : f b = f c
      · rw [if_neg (by rw [← e2]; exact e1), ← e2]
        exact h1
      · rw [if_neg e2] at h2
        have h3 := lessB_tr' _ _ _ h1 h2
        rw [if_neg (lessB_ne' h3)]
        exact h3
theorem lessT_lex (a b : Taint) : lessT a b = lexB Taint.key (lexB Taint.value fun a b => decide (a.effect < b.effect)) a b := rfl
theorem ordT : Ord lessT := by
  have e : lessT = lexB Taint.key (lexB Taint.value fun a b => decide (a.effect < b.effect)) := rfl
  rw [e]
  refine lexB_ord _ _ (fun a => ?_) (fun a b hk h1 h2 => ?_) (fun a b c h1 h2 => ?_)
  · unfold lexB; simp
  · unfold lexB at h1 h2
    by_cases ev : a.value = b.value
    · rw [if_pos ev] at h1
      rw [if_pos ev.symm] at h2
      simp only [decide_eq_false_iff_not] at h1 h2
      cases a; cases b
      simp only at *
      obtain rfl := hk
      obtain rfl := ev
      congr
      omega
    · rw [if_neg ev] at h1
      rw [if_neg (fun h => ev h.symm)] at h2
      exact absurd (lessB_tot' _ _ h1 h2) ev
  · unfold lexB at h1 h2 ⊢
    by_cases e1 : a.value = b.value
    · rw [if_pos e1] at h1
      by_cases e2 : b.value = c.value
      · rw [if_pos e2] at h2
        rw [if_pos (e1.trans e2)]
        simp only [decide_eq_true_eq] at h1 h2 ⊢
        omega
      · rw [if_neg e2] at h2
        rw [if_neg (by rw [e1]; exact e2), e1]
        exact h2
    · rw [if_neg e1] at h1
      by_cases e2 : b.value = c.value
      · rw [if_neg (by rw [← e2]; exact e1), ← e2]
        exact h1
      · rw [if_neg e2] at h2
        have h3 := lessB_tr' _ _ _ h1 h2
        rw [if_neg (lessB_ne' h3)]
        exact h3
def TaintsP (l : List Taint) : Prop := l.length ≤ 4 ∧ GoodL TaintP lessT l l.length

/-! Tolerations. -/
structure TolP (x : Tolerance) : Prop where
  lo : 0 ≤ x.effect
  hi : x.effect ≤ 2
  free : x.equal = false → x.value.size = 0 ∧ (x.key.size = 0 ∨ KeyP x.key)
  eq : x.equal = true → KeyP x.key ∧ ValP x.value
/-- Behind the key and Equal. -/
def befV (a b : Tolerance) : Bool := if a.value = b.value then decide (a.effect < b.effect) else lessB a.value b.value
def befE (a b : Tolerance) : Bool := if a.equal = b.equal then befV a b else b.equal
def befT (a b : Tolerance) : Bool := if a.key = b.key then befE a b else lessB a.key b.key
theorem befV_irr (a : Tolerance) : befV a a = false := by unfold befV; simp
theorem befV_tot {a b : Tolerance} (hk : a.key = b.key) (he : a.equal = b.equal) (h1 : befV a b = false) (h2 : befV b a = false) : a = b := by
  unfold befV at h1 h2
  by_cases ev : a.value = b.value
  · rw [if_pos ev] at h1
    rw [if_pos ev.symm] at h2
    simp only [decide_eq_false_iff_not] at h1 h2
    cases a; cases b
    simp only at *
    obtain rfl := hk
    obtain rfl := he
    obtain rfl := ev
    congr
    omega
  · rw [if_neg ev] at h1
    rw [if_neg (fun h => ev h.symm)] at h2
    exact absurd (lessB_tot' _ _ h1 h2) ev
theorem befV_tr {a b c : Tolerance} (h1 : befV a b = true) (h2 : befV b c = true) : befV a c = true := by
  unfold befV at h1 h2 ⊢
  by_cases e1 : a.value = b.value
  · rw [if_pos e1] at h1
    by_cases e2 : b.value = c.value
    · rw [if_pos e2] at h2
      rw [if_pos (e1.trans e2)]
      simp only [decide_eq_true_eq] at h1 h2 ⊢
      omega
    · rw [if_neg e2] at h2
      rw [if_neg (by rw [e1]; exact e2), e1]
      exact h2
  · rw [if_neg e1] at h1
    by_cases e2 : b.value = c.value
    · rw [if_neg (by rw [← e2]; exact e1), ← e2]
      exact h1
    · rw [if_neg e2] at h2
      have h3 := lessB_tr' _ _ _ h1 h2
      rw [if_neg (lessB_ne' h3)]
      exact h3
theorem ordO : Ord befT := by
  have e : befT = lexB Tolerance.key befE := rfl
  rw [e]
  refine lexB_ord _ _ (fun a => ?_) (fun a b hk h1 h2 => ?_) (fun a b c h1 h2 => ?_)
  · unfold befE; rw [if_pos rfl]; exact befV_irr a
  · unfold befE at h1 h2
    by_cases ee : a.equal = b.equal
    · rw [if_pos ee] at h1
      rw [if_pos ee.symm] at h2
      exact befV_tot hk ee h1 h2
    · rw [if_neg ee] at h1
      rw [if_neg (fun h => ee h.symm)] at h2
      exact absurd (by rw [h1, h2]) ee
  · unfold befE at h1 h2 ⊢
    by_cases e1 : a.equal = b.equal
    · rw [if_pos e1] at h1
      by_cases e2 : b.equal = c.equal
      · rw [if_pos e2] at h2
        rw [if_pos (e1.trans e2)]
        exact befV_tr h1 h2
      · rw [if_neg e2] at h2
        rw [if_neg (by rw [e1]; exact e2)]
        exact h2
    · rw [if_neg e1] at h1
      by_cases e2 : b.equal = c.equal
      · rw [if_neg (by rw [← e2]; exact e1), ← e2]
        exact h1
      · rw [if_neg e2] at h2
        exact absurd (h1.trans h2.symm) e2
def TolsP (l : List Tolerance) : Prop := l.length ≤ 4 ∧ GoodL TolP befT l l.length

/-! Who tolerates what. -/
open Classical in
noncomputable def tolF (t : Tolerance) (x : Taint) : Bool := decide (TolP t ∧ TaintP x ∧ (t.key.size = 0 ∨ t.key = x.key) ∧ (t.equal = false ∨ t.value = x.value) ∧ (t.effect = 0 ∨ t.effect = x.effect))
/-- Is the taint with that effect tolerated by none? -/
noncomputable def keptBy (l : List Tolerance) (e : Int) (x : Taint) : Bool := decide (x.effect = e) && !l.any (fun t => tolF t x)
noncomputable def unF (l : List Tolerance) (taints : List Taint) (e : Int) : Nat := (taints.filter (keptBy l e)).length
theorem unF_snoc (l : List Tolerance) (taints : List Taint) (x : Taint) (e : Int) : unF l (taints ++ [x]) e = unF l taints e + (if keptBy l e x = true then 1 else 0) := by
  unfold unF
  rw [List.filter_append, List.length_append]
  by_cases h : keptBy l e x = true
  · rw [if_pos h]; simp [h]
  · rw [if_neg h]; simp [h]
theorem unF_le (l : List Tolerance) (taints : List Taint) (e : Int) : unF l taints e ≤ taints.length := List.length_filter_le _ _
theorem filter_le {α : Type} {p q : α → Bool} (h : ∀ x, p x = true → q x = true) : ∀ l : List α, (l.filter p).length ≤ (l.filter q).length
  | [] => Nat.le_refl _
  | x :: l => by
    have ih := filter_le h l
    by_cases hp : p x = true
    · rw [List.filter_cons_of_pos hp, List.filter_cons_of_pos (h x hp)]
      simp only [List.length_cons]; omega
    · rw [List.filter_cons_of_neg hp]
      by_cases hq : q x = true
      · rw [List.filter_cons_of_pos hq]
        simp only [List.length_cons]; omega
      · rw [List.filter_cons_of_neg hq]; exact ih
/-- One toleration more keeps no more away. -/
theorem unF_more (l : List Tolerance) (t : Tolerance) (taints : List Taint) (e : Int) : unF (l ++ [t]) taints e ≤ unF l taints e :=
  filter_le (fun x h => by
    unfold keptBy at h ⊢
    simp only [Bool.and_eq_true, Bool.not_eq_true', List.any_append, Bool.or_eq_false_iff] at h ⊢
    exact ⟨h.1, h.2.1⟩) taints
/-- The toleration of all. -/
def allT : Tolerance := ⟨⟨#[]⟩, false, ⟨#[]⟩, 0⟩
theorem all_ok : TolP allT := ⟨by decide, by decide, fun _ => ⟨rfl, .inl rfl⟩, fun h => by cases h⟩
open Classical in
theorem tol_all {x : Taint} (h : TaintP x) : tolF allT x = true := by
  unfold tolF
  exact decide_eq_true ⟨all_ok, h, .inl rfl, .inl rfl, .inl rfl⟩
open Classical in
/-- So it leaves at most what is no right taint. -/
theorem unF_all (taints : List Taint) (e : Int) : unF [allT] taints e ≤ (taints.filter fun x => !decide (TaintP x)).length :=
  filter_le (fun x h => by
    unfold keptBy at h
    simp only [Bool.and_eq_true, Bool.not_eq_true', List.any_cons, List.any_nil, Bool.or_false] at h
    by_cases hx : TaintP x
    · rw [tol_all hx] at h; cases h.2
    · simp [hx]) taints
end Go.Proofs.YtpadpiibiocabaaDoor.taint
namespace Go.Proofs.YtpadpiibiocabaaDoor.arith
open Go.ChangeShapes Go.WideShapes Go.ChangeAt Go.RowKit
set_option linter.unusedVariables false

/-- The number of a checked result (0 for none) and whether there is one. -/
def val : Option Int → Int
  | some x => x
  | none => 0
def has : Option Int → Bool
  | some _ => true
  | none => false
def two (o : Option Int) : Value := .tuple #[.int .i64 (val o), .bool (has o)]
theorem two_some (x : Int) : two (some x) = .tuple #[.int .i64 x, .bool true] := rfl
theorem two_none : two none = .tuple #[.int .i64 0, .bool false] := rfl

def addF (a b : Int) : Option Int := if 0 ≤ a ∧ 0 ≤ b ∧ a + b ≤ 9223372036854775807 then some (a + b) else none
def subF (a b : Int) : Option Int := if 0 ≤ b ∧ b ≤ a then some (a - b) else none
def mulF (a b : Int) : Option Int := if 0 ≤ a ∧ 0 ≤ b ∧ a * b ≤ 9223372036854775807 then some (a * b) else none
def cmpF (a b : Int) : Int := if a < b then -1 else if b < a then 1 else 0
def powF (b : Int) : Nat → Option Int
  | 0 => some 1
  | k + 1 => (powF b k).bind fun x => mulF x b
def pow2F (b n : Int) : Option Int := if 0 ≤ b ∧ 0 ≤ n ∧ n ≤ 100 then powF b n.toNat else none
def sumStep (o : Option Int) (x : Int) : Option Int := o.bind fun s => addF s x
def sumF (l : List Int) : Option Int := l.foldl sumStep (some 0)

theorem add_yes {a b : Int} (h0 : 0 ≤ a) (h1 : 0 ≤ b) (h2 : a + b ≤ 9223372036854775807) : addF a b = some (a + b) := by unfold addF; rw [if_pos ⟨h0, h1, h2⟩]
theorem add_no {a b : Int} (h : ¬ (0 ≤ a ∧ 0 ≤ b ∧ a + b ≤ 9223372036854775807)) : addF a b = none := by unfold addF; rw [if_neg h]
theorem add_bd {a b x : Int} (h : addF a b = some x) : 0 ≤ a ∧ 0 ≤ b ∧ x = a + b ∧ x ≤ 9223372036854775807 := by
  unfold addF at h
  split at h
  · injection h with h; rename_i h2; exact ⟨h2.1, h2.2.1, h.symm, h ▸ h2.2.2⟩
  · cases h
theorem sub_yes {a b : Int} (h0 : 0 ≤ b) (h1 : b ≤ a) : subF a b = some (a - b) := by unfold subF; rw [if_pos ⟨h0, h1⟩]
theorem sub_no {a b : Int} (h : ¬ (0 ≤ b ∧ b ≤ a)) : subF a b = none := by unfold subF; rw [if_neg h]
theorem mul_yes {a b : Int} (h0 : 0 ≤ a) (h1 : 0 ≤ b) (h2 : a * b ≤ 9223372036854775807) : mulF a b = some (a * b) := by unfold mulF; rw [if_pos ⟨h0, h1, h2⟩]
theorem mul_no {a b : Int} (h : ¬ (0 ≤ a ∧ 0 ≤ b ∧ a * b ≤ 9223372036854775807)) : mulF a b = none := by unfold mulF; rw [if_neg h]
theorem mul_bd {a b x : Int} (h : mulF a b = some x) : 0 ≤ a ∧ 0 ≤ b ∧ x = a * b ∧ 0 ≤ x ∧ x ≤ 9223372036854775807 := by
  unfold mulF at h
  split at h
  · injection h with h; rename_i h2; exact ⟨h2.1, h2.2.1, h.symm, h ▸ Int.mul_nonneg h2.1 h2.2.1, h ▸ h2.2.2⟩
  · cases h
/-- Room for a product, as the division by b tells it. -/
theorem room {a b : Int} (h1 : 0 < b) : a ≤ 9223372036854775807 / b ↔ a * b ≤ 9223372036854775807 := Int.le_ediv_iff_mul_le h1

theorem pow_zero (b : Int) : powF b 0 = some 1 := rfl
theorem pow_some {b x : Int} {k : Nat} (h : powF b k = some x) : powF b (k + 1) = mulF x b := by show (powF b k).bind _ = _; rw [h]; rfl
theorem pow_none {b : Int} {k : Nat} (h : powF b k = none) : powF b (k + 1) = none := by show (powF b k).bind _ = _; rw [h]; rfl
theorem pow_dead {b : Int} {k : Nat} (h : powF b k = none) : ∀ n, k ≤ n → powF b n = none := by
  intro n hn
  induction n with
  | zero => obtain rfl : k = 0 := by omega
            exact h
  | succ n ih =>
    by_cases e : k = n + 1
    · subst e; exact h
    · exact pow_none (ih (by omega))
theorem pow_bd {b x : Int} {k : Nat} (h : powF b k = some x) : 0 ≤ x ∧ x ≤ 9223372036854775807 := by
  cases k with
  | zero => injection h with h; omega
  | succ k =>
    cases hp : powF b k with
    | none => rw [pow_none hp] at h; cases h
    | some y => rw [pow_some hp] at h; exact (mul_bd h).2.2.2
theorem pow2_yes {b : Int} {n : Nat} (h0 : 0 ≤ b) (h1 : n ≤ 100) : pow2F b n = powF b n := by unfold pow2F; rw [if_pos ⟨h0, by omega, by omega⟩]; rfl
theorem pow2_no {b n : Int} (h : ¬ (0 ≤ b ∧ 0 ≤ n ∧ n ≤ 100)) : pow2F b n = none := by unfold pow2F; rw [if_neg h]

theorem sum_zero (l : List Int) : sumF (l.take 0) = some 0 := by simp [sumF]
theorem sum_take {l : List Int} {k : Nat} (hk : k < l.length) : sumF (l.take (k + 1)) = (sumF (l.take k)).bind fun s => addF s (l.getD k 0) := by
  rw [List.take_succ_eq_append_getElem hk]
  unfold sumF
  rw [List.foldl_append, List.getD_eq_getElem?_getD, List.getElem?_eq_getElem hk]
  rfl
theorem sum_go {l : List Int} {k : Nat} {s : Int} (hk : k < l.length) (h : sumF (l.take k) = some s) : sumF (l.take (k + 1)) = addF s (l.getD k 0) := by rw [sum_take hk, h]; rfl
theorem sum_dead {l : List Int} {k : Nat} (h : sumF (l.take k) = none) : sumF l = none := by
  have e : sumF l = (l.drop k).foldl sumStep (sumF (l.take k)) := by
    unfold sumF
    rw [← List.foldl_append, List.take_append_drop]
  rw [e, h]
  clear e h
  induction l.drop k with
  | nil => rfl
  | cons a r ih => exact ih
theorem sum_bd : ∀ (k : Nat) {l : List Int} {s : Int}, k ≤ l.length → sumF (l.take k) = some s → 0 ≤ s ∧ s ≤ 9223372036854775807
  | 0, l, s, _, h => by rw [sum_zero] at h; injection h with h; omega
  | k + 1, l, s, hk, h => by
    cases hp : sumF (l.take k) with
    | none => rw [sum_take (by omega), hp] at h; cases h
    | some y =>
      rw [sum_go (by omega) hp] at h
      have := sum_bd k (by omega) hp
      have := add_bd h
      omega

end Go.Proofs.YtpadpiibiocabaaDoor.arith
namespace Go.Proofs.YtpadpiibiocabaaDoor.need
open Go Go.RowKit ty lab
set_option linter.unusedVariables false

def cmpB (a b : ByteArray) : Int := Lib.compareBytes a.data.toList b.data.toList
theorem cmpL_less : ∀ a b : List UInt8, decide (Lib.compareBytes a b < 0) = Op.bytesLess a b
  | [], [] => rfl
  | [], _ :: _ => rfl
  | _ :: _, [] => rfl
  | a :: x, b :: y => by
    rw [Lib.compareBytes, Op.bytesLess]
    by_cases h1 : a < b
    · simp [h1]
    · rw [if_neg h1]
      by_cases h2 : b < a
      · rw [if_pos h2]
        have : (a == b) = false := by rw [beq_eq_false_iff_ne]; rintro rfl; exact h1 h2
        simp [h1, this]
      · rw [if_neg h2, cmpL_less x y]
        obtain rfl : a = b := by
          rw [UInt8.lt_iff_toNat_lt] at h1 h2
          exact UInt8.toNat_inj.1 (by omega)
        simp [h1]
theorem cmpL_zero : ∀ a b : List UInt8, Lib.compareBytes a b = 0 → a = b
  | [], [], _ => rfl
  | [], _ :: _, h => by simp [Lib.compareBytes] at h
  | _ :: _, [], h => by simp [Lib.compareBytes] at h
  | a :: x, b :: y, h => by
    rw [Lib.compareBytes] at h
    by_cases h1 : a < b
    · rw [if_pos h1] at h; cases h
    · rw [if_neg h1] at h
      by_cases h2 : b < a
      · rw [if_pos h2] at h; cases h
      · rw [if_neg h2] at h
        rw [UInt8.lt_iff_toNat_lt] at h1 h2
        obtain rfl : a = b := UInt8.toNat_inj.1 (by omega)
        rw [cmpL_zero x y h]
theorem cmpL_self : ∀ a : List UInt8, Lib.compareBytes a a = 0
  | [] => rfl
  | a :: x => by
    have : ¬ a < a := fun h => by rw [UInt8.lt_iff_toNat_lt] at h; omega
    rw [Lib.compareBytes, if_neg this, if_neg this, cmpL_self x]
theorem cmpB_less (a b : ByteArray) : decide (cmpB a b < 0) = lessB a b := by
  unfold cmpB lessB
  rw [cmpL_less, ByteArray.toList_eq, ByteArray.toList_eq]
theorem cmpB_zero {a b : ByteArray} (h : cmpB a b = 0) : a = b := by
  have := cmpL_zero _ _ h
  apply ByteArray.ext
  exact Array.ext' this
theorem cmpB_self (a : ByteArray) : cmpB a a = 0 := cmpL_self _
theorem cmpB_way (a b : ByteArray) : cmpB a b = 0 ∧ a = b ∨ cmpB a b < 0 ∧ a ≠ b ∧ lessB a b = true ∨ 0 < cmpB a b ∧ a ≠ b ∧ lessB a b = false := by
  have h := cmpB_less a b
  rcases Int.lt_trichotomy (cmpB a b) 0 with h1 | h1 | h1
  · exact .inr (.inl ⟨h1, fun e => by subst e; rw [cmpB_self] at h1; omega, by rw [← h]; exact decide_eq_true h1⟩)
  · exact .inl ⟨h1, cmpB_zero h1⟩
  · exact .inr (.inr ⟨h1, fun e => by subst e; rw [cmpB_self] at h1; omega, by rw [← h]; exact decide_eq_false (by omega)⟩)
/-- What cmp.Or gives of three. -/
def orI (a b c : Int) : Int := if a = 0 then (if b = 0 then c else b) else a
theorem bd_cmpL : ∀ a b : List UInt8, -1 ≤ Lib.compareBytes a b ∧ Lib.compareBytes a b ≤ 1
  | [], [] => by simp [Lib.compareBytes]
  | [], _ :: _ => by simp [Lib.compareBytes]
  | _ :: _, [] => by simp [Lib.compareBytes]
  | a :: x, b :: y => by
    rw [Lib.compareBytes]
    by_cases h1 : a < b
    · rw [if_pos h1]; omega
    · rw [if_neg h1]
      by_cases h2 : b < a
      · rw [if_pos h2]; omega
      · rw [if_neg h2]; exact bd_cmpL x y
end Go.Proofs.YtpadpiibiocabaaDoor.need
namespace Go.Proofs.YtpadpiibiocabaaDoor
open Go Go.RowKit
set_option linter.unusedVariables false
/-- A comparison by a number goes by an order. -/
def CmpWay {α : Type} (c : α → α → Int) (lt : α → α → Bool) : Prop := ∀ a b, (c a b = 0 ∧ a = b) ∨ (c a b < 0 ∧ a ≠ b ∧ lt a b = true) ∨ (0 < c a b ∧ a ≠ b ∧ lt a b = false)
section
variable {α : Type} {c : α → α → Int} {lt : α → α → Bool}
theorem CmpWay.less (h : CmpWay c lt) (o : dedup.Ord lt) (a b : α) : decide (c a b < 0) = lt a b := by
  rcases h a b with ⟨h1, h2⟩ | ⟨h1, _, h3⟩ | ⟨h1, _, h3⟩
  · subst h2; rw [h1, o.irr]; rfl
  · rw [h3]; exact decide_eq_true h1
  · rw [h3]; exact decide_eq_false (by omega)
theorem CmpWay.zero (h : CmpWay c lt) (a b : α) : (c a b == 0) = lab.yes (a = b) := by
  rcases h a b with ⟨h1, h2⟩ | ⟨h1, h2, h3⟩ | ⟨h1, h2, h3⟩
  · rw [lab.yes_t h2, h1]; rfl
  · rw [lab.yes_f h2]; exact beq_eq_false_iff_ne.2 (by omega)
  · rw [lab.yes_f h2]; exact beq_eq_false_iff_ne.2 (by omega)
theorem ord_nt (o : dedup.Ord lt) (a b c : α) (h1 : lt a b = false) (h2 : lt b c = false) : lt a c = false := by
  cases h : lt a c with
  | false => rfl
  | true =>
    exfalso
    by_cases hba : lt b a = true
    · have := o.tr b a c hba h
      rw [h2] at this; cases this
    · have hba : lt b a = false := by simpa using hba
      rw [o.tot a b h1 hba, h2] at h
      cases h
end
end Go.Proofs.YtpadpiibiocabaaDoor
namespace Go.Proofs.YtpadpiibiocabaaDoor
open Go Go.RowKit
set_option linter.unusedVariables false
namespace taint
open ty lab need
def cmpT (a b : Taint) : Int := orI (cmpB a.key b.key) (cmpB a.value b.value) (arith.cmpF a.effect b.effect)
theorem cmpF_way (a b : Int) : (arith.cmpF a b = 0 ∧ a = b) ∨ (arith.cmpF a b < 0 ∧ a < b) ∨ (0 < arith.cmpF a b ∧ b < a) := by
  unfold arith.cmpF
  by_cases h : a < b
  · rw [if_pos h]; omega
  · rw [if_neg h]
    by_cases h2 : b < a
    · rw [if_pos h2]; omega
    · rw [if_neg h2]; omega
theorem wayT : CmpWay cmpT lessT := fun a b => by
  obtain ⟨k1, v1, e1⟩ := a
  obtain ⟨k2, v2, e2⟩ := b
  unfold cmpT lessT orI
  simp only
  rcases cmpB_way k1 k2 with ⟨h1, h2⟩ | ⟨h1, h2, h3⟩ | ⟨h1, h2, h3⟩
  · rw [if_pos h1, if_pos h2]
    subst h2
    rcases cmpB_way v1 v2 with ⟨g1, g2⟩ | ⟨g1, g2, g3⟩ | ⟨g1, g2, g3⟩
    · rw [if_pos g1, if_pos g2]
      subst g2
      rcases cmpF_way e1 e2 with ⟨f1, f2⟩ | ⟨f1, f2⟩ | ⟨f1, f2⟩
      · exact .inl ⟨f1, by rw [f2]⟩
      · exact .inr (.inl ⟨f1, fun e => by injection e; omega, decide_eq_true f2⟩)
      · exact .inr (.inr ⟨f1, fun e => by injection e; omega, decide_eq_false (by omega)⟩)
    · rw [if_neg (by omega), if_neg g2]
      exact .inr (.inl ⟨g1, fun e => by injection e; exact g2 (by assumption), g3⟩)
    · rw [if_neg (by omega), if_neg g2]
      exact .inr (.inr ⟨g1, fun e => by injection e; exact g2 (by assumption), g3⟩)
  · rw [if_neg (by omega), if_neg h2]
    exact .inr (.inl ⟨h1, fun e => by injection e; exact h2 (by assumption), h3⟩)
  · rw [if_neg (by omega), if_neg h2]
    exact .inr (.inr ⟨h1, fun e => by injection e; exact h2 (by assumption), h3⟩)
/-- Two flags compared: false ahead of true. -/
def cmpY (a b : Bool) : Int := if a = b then 0 else if b = true then -1 else 1
theorem cmpY_way (a b : Bool) : (cmpY a b = 0 ∧ a = b) ∨ (cmpY a b < 0 ∧ a ≠ b ∧ b = true) ∨ (0 < cmpY a b ∧ a ≠ b ∧ b = false) := by
  cases a <;> cases b <;> decide
def cmpO (a b : Tolerance) : Int := orI (cmpB a.key b.key) (cmpY a.equal b.equal) (orI (cmpB a.key b.key) (cmpB a.value b.value) (arith.cmpF a.effect b.effect))
theorem wayO : CmpWay cmpO befT := fun a b => by
  obtain ⟨k1, q1, v1, e1⟩ := a
  obtain ⟨k2, q2, v2, e2⟩ := b
  unfold cmpO befT befE befV orI
  simp only
  rcases cmpB_way k1 k2 with ⟨h1, h2⟩ | ⟨h1, h2, h3⟩ | ⟨h1, h2, h3⟩
  · rw [if_pos h1, if_pos h2]
    subst h2
    rcases cmpY_way q1 q2 with ⟨y1, y2⟩ | ⟨y1, y2, y3⟩ | ⟨y1, y2, y3⟩
    · rw [if_pos y1, if_pos y2]
      subst y2
      rcases cmpB_way v1 v2 with ⟨g1, g2⟩ | ⟨g1, g2, g3⟩ | ⟨g1, g2, g3⟩
      · rw [if_pos h1, if_pos g1, if_pos g2]
        subst g2
        rcases cmpF_way e1 e2 with ⟨f1, f2⟩ | ⟨f1, f2⟩ | ⟨f1, f2⟩
        · exact .inl ⟨f1, by rw [f2]⟩
        · exact .inr (.inl ⟨f1, fun e => by injection e; omega, decide_eq_true f2⟩)
        · exact .inr (.inr ⟨f1, fun e => by injection e; omega, decide_eq_false (by omega)⟩)
      · rw [if_pos h1, if_neg (by omega), if_neg g2]
        exact .inr (.inl ⟨g1, fun e => by injection e; exact g2 (by assumption), g3⟩)
      · rw [if_pos h1, if_neg (by omega), if_neg g2]
        exact .inr (.inr ⟨g1, fun e => by injection e; exact g2 (by assumption), g3⟩)
    · rw [if_neg (by omega), if_neg y2]
      exact .inr (.inl ⟨y1, fun e => by injection e; exact y2 (by assumption), y3⟩)
    · rw [if_neg (by omega), if_neg y2]
      exact .inr (.inr ⟨y1, fun e => by injection e; exact y2 (by assumption), y3⟩)
  · rw [if_neg (by omega), if_neg h2]
    exact .inr (.inl ⟨h1, fun e => by injection e; exact h2 (by assumption), h3⟩)
  · rw [if_neg (by omega), if_neg h2]
    exact .inr (.inr ⟨h1, fun e => by injection e; exact h2 (by assumption), h3⟩)
end taint
end Go.Proofs.YtpadpiibiocabaaDoor
namespace Go.Proofs.YtpadpiibiocabaaDoor.lab
open Go Go.RowKit
set_option linter.unusedVariables false

theorem drop_same {p : UInt8 → Bool} (l : List UInt8) : (l.dropWhile p = l) ↔ ∀ b, l.head? = some b → p b = false := by
  cases l with
  | nil => simp
  | cons a r =>
    rw [List.dropWhile_cons]
    by_cases h : p a = true
    · rw [if_pos h]
      constructor
      · intro e
        have h1 := congrArg List.length e
        have h2 := (List.dropWhile_suffix (p := p) (l := r)).length_le
        rw [List.length_cons] at h1
        omega
      · intro e
        have := e a rfl
        rw [this] at h; cases h
    · rw [if_neg h]
      simp at h
      simp [h]
theorem drop_none {p : UInt8 → Bool} (l : List UInt8) : (l.dropWhile p = []) ↔ ∀ b ∈ l, p b = true := by
  induction l with
  | nil => simp
  | cons a r ih =>
    rw [List.dropWhile_cons]
    by_cases h : p a = true
    · rw [if_pos h, ih]; simp [h]
    · rw [if_neg h]; simp [h]
theorem trim_same (l cs : List UInt8) : (Lib.trimS l cs = l) ↔ (∀ b, l.head? = some b → cs.contains b = false) ∧ (∀ b, l.getLast? = some b → cs.contains b = false) := by
  unfold Lib.trimS Lib.trimLeftS Lib.trimRightS
  constructor
  · intro h
    have h1 := congrArg List.length h
    have h2 := (List.dropWhile_suffix (p := (cs.contains ·)) (l := (l.reverse.dropWhile (cs.contains ·)).reverse)).length_le
    have h3 := (List.dropWhile_suffix (p := (cs.contains ·)) (l := l.reverse)).length_le
    rw [List.length_reverse] at h2 h3
    have h4 : l.reverse.dropWhile (cs.contains ·) = l.reverse := (List.dropWhile_suffix _).eq_of_length (by rw [List.length_reverse]; omega)
    rw [h4, List.reverse_reverse] at h
    refine ⟨(drop_same l).1 h, fun b hb => (drop_same l.reverse).1 h4 b (by rw [List.head?_reverse]; exact hb)⟩
  · rintro ⟨h1, h2⟩
    have h4 : l.reverse.dropWhile (cs.contains ·) = l.reverse := (drop_same l.reverse).2 fun b hb => h2 b (by rw [List.head?_reverse] at hb; exact hb)
    rw [h4, List.reverse_reverse]
    exact (drop_same l).2 h1
theorem trim_none (l cs : List UInt8) : (Lib.trimS l cs = []) ↔ ∀ b ∈ l, cs.contains b = true := by
  unfold Lib.trimS Lib.trimLeftS Lib.trimRightS
  rw [drop_none]
  constructor
  · intro h
    by_cases e : l.reverse.dropWhile (cs.contains ·) = []
    · intro b hb
      exact (drop_none l.reverse).1 e b (List.mem_reverse.2 hb)
    · exfalso
      have hl := List.head?_dropWhile_not (cs.contains ·) l.reverse
      cases hd : l.reverse.dropWhile (cs.contains ·) with
      | nil => exact e hd
      | cons a r =>
        rw [hd] at hl h
        have := h a (by simp)
        simp at hl
        simp [hl] at this
  · intro h b hb
    refine h b ?_
    rw [List.mem_reverse] at hb
    exact List.mem_reverse.1 ((List.dropWhile_suffix _).subset hb)
/-- As impl tells a word. -/
def IdP (most : Nat) (ls ms : List UInt8) (s : ByteArray) : Prop := 1 ≤ s.size ∧ s.size ≤ most ∧ Lib.trimS s.data.toList ms = s.data.toList ∧ Lib.trimS s.data.toList (ls ++ ms) = []
def lowL : List UInt8 := [97, 98, 99, 100, 101, 102, 103, 104, 105, 106, 107, 108, 109, 110, 111, 112, 113, 114, 115, 116, 117, 118, 119, 120, 121, 122, 48, 49, 50, 51, 52, 53, 54, 55, 56, 57]
def allL : List UInt8 := [65, 66, 67, 68, 69, 70, 71, 72, 73, 74, 75, 76, 77, 78, 79, 80, 81, 82, 83, 84, 85, 86, 87, 88, 89, 90] ++ lowL
theorem byte_all {P : UInt8 → Bool} (h : ∀ n, n < 256 → P (UInt8.ofNat n) = true) (b : UInt8) : P b = true := by
  have := h b.toNat b.toNat_lt
  rwa [UInt8.ofNat_toNat] at this
theorem isL_all (b : UInt8) : isL (b.toNat : Int) = allL.contains b := by
  have := byte_all (P := fun b => isL (b.toNat : Int) == allL.contains b) (by decide +kernel) b
  simpa using this
theorem nameB_all (b : UInt8) : nameB (b.toNat : Int) = (lowL ++ [45]).contains b := by
  have := byte_all (P := fun b => nameB (b.toNat : Int) == (lowL ++ [45]).contains b) (by decide +kernel) b
  simpa using this
theorem key_all (b : UInt8) : wordB keyO (b.toNat : Int) = (allL ++ [45, 95, 46, 47]).contains b := by
  have := byte_all (P := fun b => wordB keyO (b.toNat : Int) == (allL ++ [45, 95, 46, 47]).contains b) (by decide +kernel) b
  simpa using this
theorem val_all (b : UInt8) : wordB valO (b.toNat : Int) = (allL ++ [45, 95, 46]).contains b := by
  have := byte_all (P := fun b => wordB valO (b.toNat : Int) == (allL ++ [45, 95, 46]).contains b) (by decide +kernel) b
  simpa using this
theorem at_get (s : ByteArray) (i : Nat) (h : i < s.data.toList.length) : at_ s i = (s.data.toList[i].toNat : Int) := by
  unfold at_
  rw [List.getD_eq_getElem?_getD, List.getElem?_eq_getElem h]
  rfl
theorem size_l (s : ByteArray) : s.data.toList.length = s.size := by rw [Array.length_toList]; rfl
theorem head_at {s : ByteArray} (h : 1 ≤ s.size) : ∃ b, s.data.toList.head? = some b ∧ at_ s 0 = (b.toNat : Int) ∧ b ∈ s.data.toList := by
  have hl : 0 < s.data.toList.length := by rw [size_l]; omega
  exact ⟨s.data.toList[0], by rw [List.head?_eq_getElem?, List.getElem?_eq_getElem hl], at_get s 0 hl, List.getElem_mem hl⟩
theorem last_at {s : ByteArray} (h : 1 ≤ s.size) : ∃ b, s.data.toList.getLast? = some b ∧ at_ s (s.size - 1) = (b.toNat : Int) ∧ b ∈ s.data.toList := by
  have hl : s.size - 1 < s.data.toList.length := by rw [size_l]; omega
  exact ⟨s.data.toList[s.size - 1], by rw [List.getLast?_eq_getElem?, size_l, List.getElem?_eq_getElem hl], at_get s _ hl, List.getElem_mem hl⟩
theorem all_at {s : ByteArray} {p : Int → Bool} : (∀ i, i < s.size → p (at_ s i) = true) ↔ ∀ b ∈ s.data.toList, p (b.toNat : Int) = true := by
  constructor
  · intro h b hb
    obtain ⟨i, hi, rfl⟩ := List.getElem_of_mem hb
    rw [← at_get s i hi]
    exact h i (by rwa [size_l] at hi)
  · intro h i hi
    have hl : i < s.data.toList.length := by rwa [size_l]
    rw [at_get s i hl]
    exact h _ (List.getElem_mem hl)
theorem name_iff (s : ByteArray) : NameP s ↔ IdP 20 lowL [45] s := by
  constructor
  · rintro ⟨h1, h2, h3, h4, h5⟩
    obtain ⟨a, ha, ha2, _⟩ := head_at h1
    obtain ⟨z, hz, hz2, _⟩ := last_at h1
    rw [ha2] at h3
    rw [hz2] at h4
    refine ⟨h1, h2, (trim_same _ _).2 ⟨fun b hb => ?_, fun b hb => ?_⟩, (trim_none _ _).2 fun b hb => ?_⟩
    · obtain rfl : a = b := by rw [ha] at hb; exact Option.some.inj hb
      simp only [List.contains_cons, List.contains_nil, Bool.or_false, beq_eq_false_iff_ne]
      rintro rfl; exact h3 rfl
    · obtain rfl : z = b := by rw [hz] at hb; exact Option.some.inj hb
      simp only [List.contains_cons, List.contains_nil, Bool.or_false, beq_eq_false_iff_ne]
      rintro rfl; exact h4 rfl
    · rw [← nameB_all]; exact all_at.1 h5 b hb
  · rintro ⟨h1, h2, h3, h4⟩
    obtain ⟨h5, h6⟩ := (trim_same _ _).1 h3
    have h7 := (trim_none _ _).1 h4
    obtain ⟨a, ha, ha2, _⟩ := head_at h1
    obtain ⟨z, hz, hz2, _⟩ := last_at h1
    have h5 := h5 a ha
    have h6 := h6 z hz
    simp only [List.contains_cons, List.contains_nil, Bool.or_false, beq_eq_false_iff_ne] at h5 h6
    refine ⟨h1, h2, fun e => h5 ?_, fun e => h6 ?_, all_at.2 fun b hb => by rw [nameB_all]; exact h7 b hb⟩
    · rw [ha2] at e
      apply UInt8.toNat_inj.1
      have : (45 : UInt8).toNat = 45 := rfl
      omega
    · rw [hz2] at e
      apply UInt8.toNat_inj.1
      have : (45 : UInt8).toNat = 45 := rfl
      omega
theorem contains_app (a b : List UInt8) (x : UInt8) : (a ++ b).contains x = (a.contains x || b.contains x) := by
  rw [Bool.eq_iff_iff]; simp
/-- Words with o's bytes within, by the two trims. -/
theorem word_iff (o : ByteArray) (ms : List UInt8) (hall : ∀ b : UInt8, wordB o (b.toNat : Int) = (allL ++ ms).contains b) (hdis : ∀ b : UInt8, isL (b.toNat : Int) = true → ms.contains b = false) (most : Nat) (s : ByteArray) : (s.size ≤ most ∧ WordP o s) ↔ IdP most allL ms s := by
  constructor
  · rintro ⟨h2, h1, h3, h4, h5⟩
    obtain ⟨a, ha, ha2, _⟩ := head_at h1
    obtain ⟨z, hz, hz2, _⟩ := last_at h1
    rw [ha2] at h3
    rw [hz2] at h4
    refine ⟨h1, h2, (trim_same _ _).2 ⟨fun b hb => ?_, fun b hb => ?_⟩, (trim_none _ _).2 fun b hb => ?_⟩
    · obtain rfl : a = b := by rw [ha] at hb; exact Option.some.inj hb
      exact hdis _ h3
    · obtain rfl : z = b := by rw [hz] at hb; exact Option.some.inj hb
      exact hdis _ h4
    · rw [← hall]; exact all_at.1 h5 b hb
  · rintro ⟨h1, h2, h3, h4⟩
    obtain ⟨h5, h6⟩ := (trim_same _ _).1 h3
    have h7 := (trim_none _ _).1 h4
    obtain ⟨a, ha, ha2, ham⟩ := head_at h1
    obtain ⟨z, hz, hz2, hzm⟩ := last_at h1
    have h5 := h5 a ha
    have h6 := h6 z hz
    refine ⟨h2, h1, ?_, ?_, all_at.2 fun b hb => by rw [hall]; exact h7 b hb⟩
    · have := h7 a ham
      rw [contains_app, h5, Bool.or_false] at this
      rw [ha2, isL_all]; exact this
    · have := h7 z hzm
      rw [contains_app, h6, Bool.or_false] at this
      rw [hz2, isL_all]; exact this
theorem dis_key (b : UInt8) : isL (b.toNat : Int) = true → ([45, 95, 46, 47] : List UInt8).contains b = false := by
  have := byte_all (P := fun b => !isL (b.toNat : Int) || !([45, 95, 46, 47] : List UInt8).contains b) (by decide +kernel) b
  intro h
  rw [h] at this
  simpa using this
theorem dis_val (b : UInt8) : isL (b.toNat : Int) = true → ([45, 95, 46] : List UInt8).contains b = false := by
  have := byte_all (P := fun b => !isL (b.toNat : Int) || !([45, 95, 46] : List UInt8).contains b) (by decide +kernel) b
  intro h
  rw [h] at this
  simpa using this
theorem key_iff (s : ByteArray) : KeyP s ↔ IdP 30 allL [45, 95, 46, 47] s := word_iff keyO _ key_all dis_key 30 s
theorem val_iff (s : ByteArray) : ValP s ↔ s.size = 0 ∨ IdP 20 allL [45, 95, 46] s := by
  unfold ValP
  rw [word_iff valO _ val_all dis_val 20 s]
end Go.Proofs.YtpadpiibiocabaaDoor.lab
namespace Go.Proofs.YtpadpiibiocabaaDoor.taint
open Go Go.RowKit ty lab
set_option linter.unusedVariables false

/-- What is asked of the key and the value. -/
def TolK (k : ByteArray) (q : Bool) (a : ByteArray) : Prop := (q = true ∧ KeyP k ∧ ValP a) ∨ (q = false ∧ a.size = 0 ∧ (k.size = 0 ∨ KeyP k))
theorem tol_iff (x : Tolerance) : TolP x ↔ (0 ≤ x.effect ∧ x.effect ≤ 2) ∧ TolK x.key x.equal x.value := by
  constructor
  · intro h
    refine ⟨⟨h.lo, h.hi⟩, ?_⟩
    cases hq : x.equal with
    | true => exact .inl ⟨rfl, h.eq hq⟩
    | false => exact .inr ⟨rfl, h.free hq⟩
  · rintro ⟨⟨h1, h2⟩, h⟩
    refine ⟨h1, h2, fun hq => ?_, fun hq => ?_⟩
    · rcases h with ⟨h, _⟩ | ⟨_, h⟩
      · rw [hq] at h; cases h
      · exact h
    · rcases h with ⟨_, h⟩ | ⟨h, _⟩
      · exact h
      · rw [hq] at h; cases h
theorem empty_is {a : ByteArray} (h : a.size = 0) : a = ⟨#[]⟩ := by
  apply ByteArray.ext
  exact Array.eq_empty_of_size_eq_zero h
theorem empty_yes {a : ByteArray} (h : a.size = 0) : (a.toList == []) = true := by
  have : a.toList.length = 0 := by rw [ByteArray.toList_eq, Array.length_toList]; exact h
  rw [List.eq_nil_of_length_eq_zero this]; rfl
theorem empty_no {a : ByteArray} (h : ¬ a.size = 0) : (a.toList == []) = false := by
  rw [beq_eq_false_iff_ne]
  intro e
  apply h
  have h2 : a.toList.length = a.size := by rw [ByteArray.toList_eq, Array.length_toList]; rfl
  rw [← h2, e]; rfl
theorem val_empty : ValP ⟨#[]⟩ := .inl rfl
theorem tolK_eq (k a : ByteArray) : yes (TolK k true a) = (yes (KeyP k) && yes (ValP a)) := by
  by_cases h1 : KeyP k
  · by_cases h2 : ValP a
    · rw [yes_t h1, yes_t h2, yes_t (.inl ⟨rfl, h1, h2⟩)]; rfl
    · rw [yes_t h1, yes_f h2, yes_f]
      · rfl
      · rintro (⟨_, h⟩ | ⟨h, _⟩)
        · exact h2 h.2
        · cases h
  · rw [yes_f h1, yes_f]
    · rfl
    · rintro (⟨_, h⟩ | ⟨h, _⟩)
      · exact h1 h.1
      · cases h
end Go.Proofs.YtpadpiibiocabaaDoor.taint
namespace Go.Proofs.YtpadpiibiocabaaDoor.taint
open Go Go.RowKit ty lab
set_option linter.unusedVariables false

theorem yes_andM {p q : Prop} : yes (p ∧ q) = (yes p && yes q) := by
  by_cases hp : p
  · by_cases hq : q
    · rw [yes_t hp, yes_t hq, yes_t ⟨hp, hq⟩]; rfl
    · rw [yes_t hp, yes_f hq, yes_f fun h => hq h.2]; rfl
  · rw [yes_f hp, yes_f fun h => hp h.1]; rfl
theorem str_yes (a b : ByteArray) : (a.toList == b.toList) = yes (a = b) := by
  by_cases h : a = b
  · rw [yes_t h]; exact same_yes h
  · rw [yes_f h]; exact same_no h
theorem emp_yes (a : ByteArray) : (a.toList == []) = yes (a.size = 0) := by
  by_cases h : a.size = 0
  · rw [yes_t h]; exact empty_yes h
  · rw [yes_f h]; exact empty_no h
theorem int_yes (a b : Int) : (a == b) = yes (a = b) := by
  by_cases h : a = b
  · rw [yes_t h]; exact beq_iff_eq.2 h
  · rw [yes_f h]; exact beq_eq_false_iff_ne.2 h
theorem or_ways (a b : Bool) : a = true ∨ (a = false ∧ b = true) ∨ (a = false ∧ b = false) := by cases a <;> cases b <;> simp
theorem not_ways (a b : Bool) : a = false ∨ (a = true ∧ b = true) ∨ (a = true ∧ b = false) := by cases a <;> cases b <;> simp
open Classical in
theorem tolF_eq (t : Tolerance) (x : Taint) : tolF t x = (yes (TolP t) && (yes (TaintP x) && ((yes (t.key.size = 0) || yes (t.key = x.key)) && ((!t.equal || yes (t.value = x.value)) && (yes (t.effect = 0) || yes (t.effect = x.effect)))))) := by
  have e : ∀ p q : Prop, yes (p ∨ q) = (yes p || yes q) := fun p q => by
    by_cases hp : p
    · rw [yes_t hp, yes_t (.inl hp)]; rfl
    · by_cases hq : q
      · rw [yes_t hq, yes_t (.inr hq), Bool.or_true]
      · rw [yes_f hp, yes_f hq, yes_f (fun h => h.elim hp hq)]; rfl
  have h0 : tolF t x = yes (TolP t ∧ TaintP x ∧ (t.key.size = 0 ∨ t.key = x.key) ∧ (t.equal = false ∨ t.value = x.value) ∧ (t.effect = 0 ∨ t.effect = x.effect)) := by
    by_cases h : (TolP t ∧ TaintP x ∧ (t.key.size = 0 ∨ t.key = x.key) ∧ (t.equal = false ∨ t.value = x.value) ∧ (t.effect = 0 ∨ t.effect = x.effect))
    · rw [yes_t h]; exact decide_eq_true h
    · rw [yes_f h]; exact decide_eq_false h
  have h1 : (!t.equal) = yes (t.equal = false) := by
    cases h : t.equal with
    | true => rw [yes_f (by simp)]; rfl
    | false => rw [yes_t rfl]; rfl
  rw [h0, yes_andM, yes_andM, yes_andM, yes_andM, e, e, e, h1]
end Go.Proofs.YtpadpiibiocabaaDoor.taint
namespace Go.Proofs.YtpadpiibiocabaaDoor.taint
open Go Go.RowKit ty lab
set_option linter.unusedVariables false

/-- Does one of them tolerate it? -/
noncomputable def anyT (l : List Tolerance) (x : Taint) : Bool := l.any fun t => tolF t x
theorem anyT_next {l : List Tolerance} {k : Nat} (h : k < l.length) (x : Taint) : anyT (l.take (k + 1)) x = (anyT (l.take k) x || tolF l[k] x) := by
  unfold anyT
  rw [List.take_succ_eq_append_getElem h, List.any_append]
  simp
theorem anyT_none {l : List Tolerance} {x : Taint} (h : ∀ q (hq : q < l.length), tolF l[q] x = false) : anyT l x = false := by
  unfold anyT
  rw [List.any_eq_false]
  intro t ht
  obtain ⟨i, hi, rfl⟩ := List.getElem_of_mem ht
  rw [h i hi]; simp
theorem anyT_some {l : List Tolerance} {x : Taint} {q : Nat} (hq : q < l.length) (h : tolF l[q] x = true) : anyT l x = true := by
  unfold anyT
  rw [List.any_eq_true]
  exact ⟨l[q], List.getElem_mem hq, h⟩
theorem keptBy_eq (l : List Tolerance) (e : Int) (x : Taint) : keptBy l e x = ((x.effect == e) && !anyT l x) := by
  unfold keptBy anyT
  congr 1
theorem keptBy_or (l : List Tolerance) (e : Int) (x : Taint) : keptBy l e x = !((x.effect != e) || anyT l x) := by
  rw [keptBy_eq]
  cases h : x.effect == e <;> simp [bne, h]
theorem unF_next {l : List Tolerance} {xs : List Taint} {j : Nat} (e : Int) (h : j < xs.length) : unF l (xs.take (j + 1)) e = unF l (xs.take j) e + (if keptBy l e xs[j] = true then 1 else 0) := by
  rw [List.take_succ_eq_append_getElem h, unF_snoc]
end Go.Proofs.YtpadpiibiocabaaDoor.taint
namespace Go.Proofs.YtpadpiibiocabaaDoor.need
open Go Go.RowKit dedup
set_option linter.unusedVariables false

theorem sum_ins {α : Type} (lt : α → α → Bool) (f : α → Nat) (x : α) : ∀ S : List α, wsum f (insD lt x S) ≤ f x + wsum f S
  | [] => by simp [insD, wsum]
  | y :: r => by
    have ih := sum_ins lt f x r
    rw [insD]
    split
    · simp only [wsum, List.map_cons, List.sum_cons] at ih ⊢; omega
    split
    · simp only [wsum, List.map_cons, List.sum_cons]; omega
    · simp only [wsum, List.map_cons, List.sum_cons]; omega
theorem sum_dsort {α : Type} (lt : α → α → Bool) (f : α → Nat) (l : List α) : wsum f (dsort lt l) ≤ wsum f l := by
  suffices h : ∀ (l acc : List α), wsum f (l.foldl (fun acc x => insD lt x acc) acc) ≤ wsum f acc + wsum f l by simpa [dsort, wsum] using h l []
  intro l
  induction l with
  | nil => intro acc; simp [wsum]
  | cons x l ih =>
    intro acc
    have h1 := ih (insD lt x acc)
    have h2 := sum_ins lt f x acc
    simp only [List.foldl_cons]
    have e : wsum f (x :: l) = f x + wsum f l := by simp [wsum]
    omega
end Go.Proofs.YtpadpiibiocabaaDoor.need
