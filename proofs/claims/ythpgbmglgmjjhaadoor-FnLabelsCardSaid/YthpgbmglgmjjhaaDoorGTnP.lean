/- Merged: DedupM TaintM. -/
import Derived.Test.YthpgbmglgmjjhaaDoorBase
import Derived.Test.YthpgbmglgmjjhaaDoorGTy
import Derived.Test.YthpgbmglgmjjhaaDoorSortP
namespace Go.Proofs.YthpgbmglgmjjhaaDoor.dedup
open Go Go.RowKit
set_option linter.unusedVariables false
variable {α : Type}

def insD (lt : α → α → Bool) (x : α) : List α → List α
  | [] => [x]
  | y :: r => if lt y x = true then y :: insD lt x r else if lt x y = true then x :: y :: r else y :: r
/-- The elements in order, each once. -/
def dsort (lt : α → α → Bool) (l : List α) : List α := l.foldl (fun acc x => insD lt x acc) []
theorem dsort_snoc (lt : α → α → Bool) (l : List α) (x : α) : dsort lt (l ++ [x]) = insD lt x (dsort lt l) := by
  unfold dsort
  rw [List.foldl_append]
  rfl
theorem insD_stay {lt : α → α → Bool} {x : α} : ∀ {S : List α} {k : Nat} (hk : k < S.length), (∀ q (h : q < k), lt (S[q]'(by omega)) x = true) → lt S[k] x = false → lt x S[k] = false → insD lt x S = S
  | [], _, hk, _, _, _ => by simp at hk
  | y :: r, 0, _, _, h2, h3 => by
    simp only [List.getElem_cons_zero] at h2 h3
    rw [insD, if_neg (by rw [h2]; simp), if_neg (by rw [h3]; simp)]
  | y :: r, k + 1, hk, h1, h2, h3 => by
    have h0 := h1 0 (by omega)
    simp only [List.getElem_cons_zero] at h0
    rw [insD, if_pos h0, insD_stay (S := r) (k := k) (by simpa using hk) (fun q h => by have := h1 (q + 1) (by omega); simpa using this) (by simpa using h2) (by simpa using h3)]
theorem insD_put {lt : α → α → Bool} {x : α} : ∀ {S : List α} {k : Nat} (hk : k ≤ S.length), (∀ q (h : q < k), lt (S[q]'(by omega)) x = true) → (∀ h : k < S.length, lt S[k] x = false ∧ lt x S[k] = true) → insD lt x S = S.take k ++ x :: S.drop k
  | [], k, hk, _, _ => by
    have : k = 0 := by simpa using hk
    subst this
    rfl
  | y :: r, 0, _, _, h2 => by
    obtain ⟨h2, h3⟩ := h2 (by simp)
    simp only [List.getElem_cons_zero] at h2 h3
    rw [insD, if_neg (by rw [h2]; simp), if_pos h3]
    rfl
  | y :: r, k + 1, hk, h1, h2 => by
    have h0 := h1 0 (by omega)
    simp only [List.getElem_cons_zero] at h0
    rw [insD, if_pos h0, insD_put (S := r) (k := k) (by simpa using hk) (fun q h => by have := h1 (q + 1) (by omega); simpa using this) (fun h => by have := h2 (by simpa using h); simpa using this)]
    rfl
theorem insD_length (lt : α → α → Bool) (x : α) : ∀ S : List α, (insD lt x S).length ≤ S.length + 1
  | [] => Nat.le_refl _
  | y :: r => by
    have ih := insD_length lt x r
    rw [insD]
    split
    · simp only [List.length_cons]; omega
    split <;> simp
theorem insD_sub (lt : α → α → Bool) (x : α) : ∀ (S : List α) (y : α), y ∈ insD lt x S → y = x ∨ y ∈ S
  | [], y, h => by left; simpa [insD] using h
  | z :: r, y, h => by
    rw [insD] at h
    split at h
    · rcases List.mem_cons.1 h with rfl | h
      · exact .inr List.mem_cons_self
      · exact (insD_sub lt x r y h).imp id (List.mem_cons_of_mem _)
    split at h
    · rcases List.mem_cons.1 h with rfl | h
      · exact .inl rfl
      · exact .inr h
    · exact .inr h
theorem dsort_length (lt : α → α → Bool) (l : List α) : (dsort lt l).length ≤ l.length := by
  suffices h : ∀ (l acc : List α), (l.foldl (fun acc x => insD lt x acc) acc).length ≤ acc.length + l.length by simpa [dsort] using h l []
  intro l
  induction l with
  | nil => intro acc; simp
  | cons x l ih =>
    intro acc
    have h1 := ih (insD lt x acc)
    have h2 := insD_length lt x acc
    simp only [List.foldl_cons, List.length_cons]
    omega
theorem dsort_sub (lt : α → α → Bool) (l : List α) : ∀ y ∈ dsort lt l, y ∈ l := by
  suffices h : ∀ (l acc : List α) (y : α), y ∈ l.foldl (fun acc x => insD lt x acc) acc → y ∈ acc ∨ y ∈ l from fun y hy => by simpa using h l [] y hy
  intro l
  induction l with
  | nil => intro acc y h; exact .inl h
  | cons x l ih =>
    intro acc y h
    rcases ih _ _ h with h | h
    · rcases insD_sub lt x acc y h with rfl | h
      · exact .inr List.mem_cons_self
      · exact .inl h
    · exact .inr (List.mem_cons_of_mem _ h)
/-- An order in which of two that differ one is less. -/
structure Ord (lt : α → α → Bool) : Prop where
  irr : ∀ a, lt a a = false
  tot : ∀ a b, lt a b = false → lt b a = false → a = b
  tr : ∀ a b c, lt a b = true → lt b c = true → lt a c = true
def Asc (lt : α → α → Bool) (l : List α) : Prop := l.Pairwise fun a b => lt a b = true
theorem insD_has {lt : α → α → Bool} (o : Ord lt) (x : α) : ∀ S : List α, x ∈ insD lt x S ∧ ∀ y ∈ S, y ∈ insD lt x S
  | [] => ⟨by simp [insD], fun y h => by cases h⟩
  | z :: r => by
    obtain ⟨h1, h2⟩ := insD_has o x r
    rw [insD]
    split
    · refine ⟨List.mem_cons_of_mem _ h1, fun y hy => ?_⟩
      rcases List.mem_cons.1 hy with rfl | hy
      · exact List.mem_cons_self
      · exact List.mem_cons_of_mem _ (h2 y hy)
    split
    · exact ⟨List.mem_cons_self, fun y hy => List.mem_cons_of_mem _ hy⟩
    · rename_i a b
      have : z = x := o.tot _ _ (by simpa using a) (by simpa using b)
      subst this
      exact ⟨List.mem_cons_self, fun y hy => hy⟩
theorem insD_asc {lt : α → α → Bool} (o : Ord lt) (x : α) : ∀ S : List α, Asc lt S → Asc lt (insD lt x S)
  | [], _ => by simp [insD, Asc]
  | z :: r, h => by
    obtain ⟨h1, h2⟩ := List.pairwise_cons.1 h
    rw [insD]
    split
    · rename_i a
      refine List.pairwise_cons.2 ⟨fun y hy => ?_, insD_asc o x r h2⟩
      rcases insD_sub lt x r y hy with rfl | hy
      · exact a
      · exact h1 y hy
    split
    · rename_i a b
      refine List.pairwise_cons.2 ⟨fun y hy => ?_, h⟩
      rcases List.mem_cons.1 hy with rfl | hy
      · exact b
      · exact o.tr _ _ _ b (h1 y hy)
    · exact h
theorem dsort_all {lt : α → α → Bool} (o : Ord lt) (l : List α) : Asc lt (dsort lt l) ∧ ∀ y, y ∈ dsort lt l ↔ y ∈ l := by
  refine ⟨?_, fun y => ⟨dsort_sub lt l y, ?_⟩⟩
  · suffices h : ∀ (l acc : List α), Asc lt acc → Asc lt (l.foldl (fun acc x => insD lt x acc) acc) from h l [] List.Pairwise.nil
    intro l
    induction l with
    | nil => intro acc h; exact h
    | cons x l ih => intro acc h; exact ih _ (insD_asc o x acc h)
  · suffices h : ∀ (l acc : List α) (y : α), y ∈ acc ∨ y ∈ l → y ∈ l.foldl (fun acc x => insD lt x acc) acc from fun hy => h l [] y (.inr hy)
    intro l
    induction l with
    | nil => intro acc y h; exact h.elim id (fun h => by cases h)
    | cons x l ih =>
      intro acc y h
      refine ih _ y ?_
      obtain ⟨h1, h2⟩ := insD_has o x acc
      rcases h with h | h
      · exact .inl (h2 y h)
      · rcases List.mem_cons.1 h with rfl | h
        · exact .inl h1
        · exact .inr h
theorem asc_same {lt : α → α → Bool} (o : Ord lt) : ∀ a b : List α, Asc lt a → Asc lt b → (∀ y, y ∈ a ↔ y ∈ b) → a = b
  | [], [], _, _, _ => rfl
  | [], y :: b, _, _, h => absurd ((h y).2 List.mem_cons_self) (by simp)
  | x :: a, [], _, _, h => absurd ((h x).1 List.mem_cons_self) (by simp)
  | x :: a, y :: b, ha, hb, h => by
    obtain ⟨ha1, ha2⟩ := List.pairwise_cons.1 ha
    obtain ⟨hb1, hb2⟩ := List.pairwise_cons.1 hb
    have no : ∀ u v, lt u v = true → lt v u = true → False := fun u v h1 h2 => by
      have := o.tr _ _ _ h1 h2
      rw [o.irr] at this
      cases this
    have e : x = y := by
      rcases List.mem_cons.1 ((h x).1 List.mem_cons_self) with e | h1
      · exact e
      rcases List.mem_cons.1 ((h y).2 List.mem_cons_self) with e | h2
      · exact e.symm
      exact (no _ _ (ha1 _ h2) (hb1 _ h1)).elim
    subst e
    rw [asc_same o a b ha2 hb2 fun z => ?_]
    constructor
    · intro hz
      rcases List.mem_cons.1 ((h z).1 (List.mem_cons_of_mem _ hz)) with rfl | h1
      · have := ha1 _ hz
        rw [o.irr] at this
        cases this
      · exact h1
    · intro hz
      rcases List.mem_cons.1 ((h z).2 (List.mem_cons_of_mem _ hz)) with rfl | h1
      · have := hb1 _ hz
        rw [o.irr] at this
        cases this
      · exact h1
/-- Whoever puts the elements in order, each once, gives this list. -/
theorem dsort_is {lt : α → α → Bool} (o : Ord lt) (l r : List α) (h1 : Asc lt r) (h2 : ∀ y, y ∈ r ↔ y ∈ l) : r = dsort lt l :=
  asc_same o _ _ h1 (dsort_all o l).1 fun y => (h2 y).trans ((dsort_all o l).2 y).symm
/-- A list in order stands as it is. -/
theorem dsort_asc {lt : α → α → Bool} (o : Ord lt) (l : List α) (h : Asc lt l) : dsort lt l = l := (dsort_is o l l h fun y => Iff.rfl).symm
end Go.Proofs.YthpgbmglgmjjhaaDoor.dedup
namespace Go.Proofs.YthpgbmglgmjjhaaDoor.taint
open Go Go.RowKit ty lab dedup
set_option linter.unusedVariables false

/-! Lists that are right as far as k, over any check and order. -/
section
variable {α : Type} {P : α → Prop} {lt : α → α → Bool}
def GoodL (P : α → Prop) (lt : α → α → Bool) (l : List α) (k : Nat) : Prop := ∀ i (h : i < l.length), i < k → P l[i] ∧ ∀ m (hm : m + 1 = i), lt (l[m]'(by omega)) l[i] = true
theorem goodL_next {l : List α} {k : Nat} (h : GoodL P lt l k) (hk : k < l.length) (h2 : P l[k]) (h3 : ∀ m (hm : m + 1 = k), lt (l[m]'(by omega)) l[k] = true) : GoodL P lt l (k + 1) := fun i hi hik => by
  by_cases e : i = k
  · subst e; exact ⟨h2, h3⟩
  · exact h i hi (by omega)
theorem goodL_zero (l : List α) : GoodL P lt l 0 := fun i _ h => absurd h (Nat.not_lt_zero _)
theorem goodL_asc (o : Ord lt) {l : List α} (h : GoodL P lt l l.length) : Asc lt l := by
  unfold Asc
  rw [List.pairwise_iff_getElem]
  intro i j hi hj hij
  induction j with
  | zero => omega
  | succ j ih =>
    have hs := (h (j + 1) hj hj).2 j rfl
    by_cases e : i = j
    · subst e; exact hs
    · exact o.tr _ _ _ (ih (by omega) (by omega)) hs
theorem goodL_all {l : List α} (h : GoodL P lt l l.length) : ∀ x ∈ l, P x := fun x hx => by
  obtain ⟨i, hi, rfl⟩ := List.getElem_of_mem hx
  exact (h i hi hi).1
open Classical in
/-- Put in order, each once; or the list as it was. -/
noncomputable def sortL (P : List α → Prop) (lt : α → α → Bool) (l : List α) : List α × Bool := if l.length ≤ 40 ∧ P (dsort lt l) then (dsort lt l, true) else (l, false)
theorem sortL_yes {P : List α → Prop} {l : List α} (h : l.length ≤ 40 ∧ P (dsort lt l)) : sortL P lt l = (dsort lt l, true) := by unfold sortL; rw [if_pos h]
theorem sortL_no {P : List α → Prop} {l : List α} (h : ¬ (l.length ≤ 40 ∧ P (dsort lt l))) : sortL P lt l = (l, false) := by unfold sortL; rw [if_neg h]
theorem sortL_cases (P : List α → Prop) (l : List α) : sortL P lt l = (l, false) ∨ (sortL P lt l = (dsort lt l, true) ∧ P (dsort lt l)) := by
  by_cases h : l.length ≤ 40 ∧ P (dsort lt l)
  · exact .inr ⟨sortL_yes h, h.2⟩
  · exact .inl (sortL_no h)
theorem sortL_len {P : List α → Prop} {l : List α} {n : Nat} (h : l.length ≤ n) : (sortL P lt l).1.length ≤ n := by
  rcases sortL_cases (lt := lt) P l with e | ⟨e, _⟩ <;> rw [e]
  · exact h
  · exact Nat.le_trans (dsort_length _ _) h
theorem sortL_sub {P : List α → Prop} {l : List α} : ∀ x ∈ (sortL P lt l).1, x ∈ l := fun x hx => by
  rcases sortL_cases (lt := lt) P l with e | ⟨e, _⟩ <;> rw [e] at hx
  · exact hx
  · exact dsort_sub _ _ x hx
end

/-! Taints. -/
structure TaintP (x : Taint) : Prop where
  key : KeyP x.key
  value : ValP x.value
  lo : 1 ≤ x.effect
  hi : x.effect ≤ 2
def lessT (a b : Taint) : Bool := if a.key = b.key then (if a.value = b.value then decide (a.effect < b.effect) else lessB a.value b.value) else lessB a.key b.key
theorem lessB_irr' (a : ByteArray) : lessB a a = false := less_irr _
theorem lessB_tr' (a b c : ByteArray) (h1 : lessB a b = true) (h2 : lessB b c = true) : lessB a c = true := less_trans _ _ _ h1 h2
theorem lessB_ne' {a b : ByteArray} (h : lessB a b = true) : a ≠ b := fun e => by rw [e, lessB_irr'] at h; cases h
theorem lessB_tot' (a b : ByteArray) (h1 : lessB a b = false) (h2 : lessB b a = false) : a = b := key_same h1 h2
/-- One key ahead of another order. -/
def lexB {β : Type} (f : β → ByteArray) (r : β → β → Bool) (a b : β) : Bool := if f a = f b then r a b else lessB (f a) (f b)
theorem lexB_ord {β : Type} (f : β → ByteArray) (r : β → β → Bool) (irr : ∀ a, r a a = false) (tot : ∀ a b, f a = f b → r a b = false → r b a = false → a = b) (tr : ∀ a b c, r a b = true → r b c = true → r a c = true) : Ord (lexB f r) := by
  refine ⟨fun a => ?_, fun a b h1 h2 => ?_, fun a b c h1 h2 => ?_⟩
  · unfold lexB; rw [if_pos rfl]; exact irr a
  · unfold lexB at h1 h2
    by_cases e : f a = f b
    · rw [if_pos e] at h1
      rw [if_pos e.symm] at h2
      exact tot a b e h1 h2
    · rw [if_neg e] at h1
      rw [if_neg (fun h => e h.symm)] at h2
      exact absurd (lessB_tot' _ _ h1 h2) e
  · unfold lexB at h1 h2 ⊢
    by_cases e1 : f a = f b
    · rw [if_pos e1] at h1
      by_cases e2 : f b = f c
      · rw [if_pos e2] at h2
        rw [if_pos (e1.trans e2)]
        exact tr _ _ _ h1 h2
      · rw [if_neg e2] at h2
        rw [if_neg (by rw [e1]; exact e2), e1]
        exact h2
    · rw [if_neg e1] at h1
      by_cases e2 : f b = f c
      · rw [if_neg (by rw [← e2]; exact e1), ← e2]
        exact h1
      · rw [if_neg e2] at h2
        have h3 := lessB_tr' _ _ _ h1 h2
        rw [if_neg (lessB_ne' h3)]
        exact h3
theorem lessT_lex (a b : Taint) : lessT a b = lexB Taint.key (lexB Taint.value fun a b => decide (a.effect < b.effect)) a b := rfl
theorem ordT : Ord lessT := by
  have e : lessT = lexB Taint.key (lexB Taint.value fun a b => decide (a.effect < b.effect)) := rfl
  rw [e]
  refine lexB_ord _ _ (fun a => ?_) (fun a b hk h1 h2 => ?_) (fun a b c h1 h2 => ?_)
  · unfold lexB; simp
  · unfold lexB at h1 h2
    by_cases ev : a.value = b.value
    · rw [if_pos ev] at h1
      rw [if_pos ev.symm] at h2
      simp only [decide_eq_false_iff_not] at h1 h2
      cases a; cases b
      simp only at *
      obtain rfl := hk
      obtain rfl := ev
      congr
      omega
    · rw [if_neg ev] at h1
      rw [if_neg (fun h => ev h.symm)] at h2
      exact absurd (lessB_tot' _ _ h1 h2) ev
  · unfold lexB at h1 h2 ⊢
    by_cases e1 : a.value = b.value
    · rw [if_pos e1] at h1
      by_cases e2 : b.value = c.value
      · rw [if_pos e2] at h2
        rw [if_pos (e1.trans e2)]
        simp only [decide_eq_true_eq] at h1 h2 ⊢
        omega
      · rw [if_neg e2] at h2
        rw [if_neg (by rw [e1]; exact e2), e1]
        exact h2
    · rw [if_neg e1] at h1
      by_cases e2 : b.value = c.value
      · rw [if_neg (by rw [← e2]; exact e1), ← e2]
        exact h1
      · rw [if_neg e2] at h2
        have h3 := lessB_tr' _ _ _ h1 h2
        rw [if_neg (lessB_ne' h3)]
        exact h3
def TaintsP (l : List Taint) : Prop := l.length ≤ 4 ∧ GoodL TaintP lessT l l.length

/-! Tolerations. -/
structure TolP (x : Tolerance) : Prop where
  lo : 0 ≤ x.effect
  hi : x.effect ≤ 2
  free : x.equal = false → x.value.size = 0 ∧ (x.key.size = 0 ∨ KeyP x.key)
  eq : x.equal = true → KeyP x.key ∧ ValP x.value
/-- Behind the key and Equal. -/
def befV (a b : Tolerance) : Bool := if a.value = b.value then decide (a.effect < b.effect) else lessB a.value b.value
def befE (a b : Tolerance) : Bool := if a.equal = b.equal then befV a b else b.equal
def befT (a b : Tolerance) : Bool := if a.key = b.key then befE a b else lessB a.key b.key
theorem befV_irr (a : Tolerance) : befV a a = false := by unfold befV; simp
theorem befV_tot {a b : Tolerance} (hk : a.key = b.key) (he : a.equal = b.equal) (h1 : befV a b = false) (h2 : befV b a = false) : a = b := by
  unfold befV at h1 h2
  by_cases ev : a.value = b.value
  · rw [if_pos ev] at h1
    rw [if_pos ev.symm] at h2
    simp only [decide_eq_false_iff_not] at h1 h2
    cases a; cases b
    simp only at *
    obtain rfl := hk
    obtain rfl := he
    obtain rfl := ev
    congr
    omega
  · rw [if_neg ev] at h1
    rw [if_neg (fun h => ev h.symm)] at h2
    exact absurd (lessB_tot' _ _ h1 h2) ev
theorem befV_tr {a b c : Tolerance} (h1 : befV a b = true) (h2 : befV b c = true) : befV a c = true := by
  unfold befV at h1 h2 ⊢
  by_cases e1 : a.value = b.value
  · rw [if_pos e1] at h1
    by_cases e2 : b.value = c.value
    · rw [if_pos e2] at h2
      rw [if_pos (e1.trans e2)]
      simp only [decide_eq_true_eq] at h1 h2 ⊢
      omega
    · rw [if_neg e2] at h2
      rw [if_neg (by rw [e1]; exact e2), e1]
      exact h2
  · rw [if_neg e1] at h1
    by_cases e2 : b.value = c.value
    · rw [if_neg (by rw [← e2]; exact e1), ← e2]
      exact h1
    · rw [if_neg e2] at h2
      have h3 := lessB_tr' _ _ _ h1 h2
      rw [if_neg (lessB_ne' h3)]
      exact h3
theorem ordO : Ord befT := by
  have e : befT = lexB Tolerance.key befE := rfl
  rw [e]
  refine lexB_ord _ _ (fun a => ?_) (fun a b hk h1 h2 => ?_) (fun a b c h1 h2 => ?_)
  · unfold befE; rw [if_pos rfl]; exact befV_irr a
  · unfold befE at h1 h2
    by_cases ee : a.equal = b.equal
    · rw [if_pos ee] at h1
      rw [if_pos ee.symm] at h2
      exact befV_tot hk ee h1 h2
    · rw [if_neg ee] at h1
      rw [if_neg (fun h => ee h.symm)] at h2
      exact absurd (by rw [h1, h2]) ee
  · unfold befE at h1 h2 ⊢
    by_cases e1 : a.equal = b.equal
    · rw [if_pos e1] at h1
      by_cases e2 : b.equal = c.equal
      · rw [if_pos e2] at h2
        rw [if_pos (e1.trans e2)]
        exact befV_tr h1 h2
      · rw [if_neg e2] at h2
        rw [if_neg (by rw [e1]; exact e2)]
        exact h2
    · rw [if_neg e1] at h1
      by_cases e2 : b.equal = c.equal
      · rw [if_neg (by rw [← e2]; exact e1), ← e2]
        exact h1
      · rw [if_neg e2] at h2
        exact absurd (h1.trans h2.symm) e2
def TolsP (l : List Tolerance) : Prop := l.length ≤ 4 ∧ GoodL TolP befT l l.length

/-! Who tolerates what. -/
open Classical in
noncomputable def tolF (t : Tolerance) (x : Taint) : Bool := decide (TolP t ∧ TaintP x ∧ (t.key.size = 0 ∨ t.key = x.key) ∧ (t.equal = false ∨ t.value = x.value) ∧ (t.effect = 0 ∨ t.effect = x.effect))
/-- Is the taint with that effect tolerated by none? -/
noncomputable def keptBy (l : List Tolerance) (e : Int) (x : Taint) : Bool := decide (x.effect = e) && !l.any (fun t => tolF t x)
noncomputable def unF (l : List Tolerance) (taints : List Taint) (e : Int) : Nat := (taints.filter (keptBy l e)).length
theorem unF_snoc (l : List Tolerance) (taints : List Taint) (x : Taint) (e : Int) : unF l (taints ++ [x]) e = unF l taints e + (if keptBy l e x = true then 1 else 0) := by
  unfold unF
  rw [List.filter_append, List.length_append]
  by_cases h : keptBy l e x = true
  · rw [if_pos h]; simp [h]
  · rw [if_neg h]; simp [h]
theorem unF_le (l : List Tolerance) (taints : List Taint) (e : Int) : unF l taints e ≤ taints.length := List.length_filter_le _ _
theorem filter_le {α : Type} {p q : α → Bool} (h : ∀ x, p x = true → q x = true) : ∀ l : List α, (l.filter p).length ≤ (l.filter q).length
  | [] => Nat.le_refl _
  | x :: l => by
    have ih := filter_le h l
    by_cases hp : p x = true
    · rw [List.filter_cons_of_pos hp, List.filter_cons_of_pos (h x hp)]
      simp only [List.length_cons]; omega
    · rw [List.filter_cons_of_neg hp]
      by_cases hq : q x = true
      · rw [List.filter_cons_of_pos hq]
        simp only [List.length_cons]; omega
      · rw [List.filter_cons_of_neg hq]; exact ih
/-- One toleration more keeps no more away. -/
theorem unF_more (l : List Tolerance) (t : Tolerance) (taints : List Taint) (e : Int) : unF (l ++ [t]) taints e ≤ unF l taints e :=
  filter_le (fun x h => by
    unfold keptBy at h ⊢
    simp only [Bool.and_eq_true, Bool.not_eq_true', List.any_append, Bool.or_eq_false_iff] at h ⊢
    exact ⟨h.1, h.2.1⟩) taints
/-- The toleration of all. -/
def allT : Tolerance := ⟨⟨#[]⟩, false, ⟨#[]⟩, 0⟩
theorem all_ok : TolP allT := ⟨by decide, by decide, fun _ => ⟨rfl, .inl rfl⟩, fun h => by cases h⟩
open Classical in
theorem tol_all {x : Taint} (h : TaintP x) : tolF allT x = true := by
  unfold tolF
  exact decide_eq_true ⟨all_ok, h, .inl rfl, .inl rfl, .inl rfl⟩
open Classical in
/-- So it leaves at most what is no right taint. -/
theorem unF_all (taints : List Taint) (e : Int) : unF [allT] taints e ≤ (taints.filter fun x => !decide (TaintP x)).length :=
  filter_le (fun x h => by
    unfold keptBy at h
    simp only [Bool.and_eq_true, Bool.not_eq_true', List.any_cons, List.any_nil, Bool.or_false] at h
    by_cases hx : TaintP x
    · rw [tol_all hx] at h; cases h.2
    · simp [hx]) taints
end Go.Proofs.YthpgbmglgmjjhaaDoor.taint
