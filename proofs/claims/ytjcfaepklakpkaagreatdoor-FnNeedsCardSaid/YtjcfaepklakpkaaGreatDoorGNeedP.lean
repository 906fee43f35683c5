/- Merged: NeedM DedupM SortNM ArithM CmpNM SqM. -/
import Derived.Test.YtjcfaepklakpkaaGreatDoorGPre
import Derived.Test.YtjcfaepklakpkaaGreatDoorGLabP
import Derived.Test.YtjcfaepklakpkaaGreatDoorBase
import Derived.Test.YtjcfaepklakpkaaGreatDoorRows
import Derived.ProofKit
import Derived.OpenShut
import Derived.Lib.Bytealg
namespace Go.Proofs.YtjcfaepklakpkaaGreatDoor.need
open Go Go.RowKit ty lab
set_option linter.unusedVariables false

/-- The first k values are right, in order. -/
def GoodV (l : List ByteArray) (k : Nat) : Prop := ∀ i (h : i < l.length), i < k → ValP l[i] ∧ ∀ m (hm : m + 1 = i), lessB (l[m]'(by omega)) l[i] = true
theorem goodV_next {l : List ByteArray} {k : Nat} (h : GoodV l k) (hk : k < l.length) (h2 : ValP l[k]) (h3 : ∀ m (hm : m + 1 = k), lessB (l[m]'(by omega)) l[k] = true) : GoodV l (k + 1) := fun i hi hik => by
  by_cases e : i = k
  · subst e; exact ⟨h2, h3⟩
  · exact h i hi (by omega)
structure NeedP (x : Need) : Prop where
  key : KeyP x.key
  lo : 1 ≤ x.op
  hi : x.op ≤ 4
  none : 3 ≤ x.op → x.values.length = 0
  some : x.op < 3 → 1 ≤ x.values.length ∧ x.values.length ≤ 4 ∧ GoodV x.values x.values.length
/-- Is the requirement met, given what LabelAt gives. -/
noncomputable def metO (o : Option ByteArray) (x : Need) : Bool := match o with
  | some v => if x.op = 1 then yes (v ∈ x.values) else if x.op = 2 then !yes (v ∈ x.values) else if x.op = 3 then true else false
  | none => if x.op = 1 then false else if x.op = 2 then true else if x.op = 3 then false else true
noncomputable def metF (l : List Label) (x : Need) : Bool := yes (NeedP x) && metO (atF l x.key) x
theorem met_no {l : List Label} {x : Need} (h : ¬ NeedP x) : metF l x = false := by unfold metF; rw [yes_f h]; rfl
theorem met_yes {l : List Label} {x : Need} (h : NeedP x) : metF l x = metO (atF l x.key) x := by unfold metF; rw [yes_t h]; rfl
/-- Values compared. -/
def lessV : List ByteArray → List ByteArray → Bool
  | [], [] => false
  | [], _ :: _ => true
  | _ :: _, [] => false
  | a :: x, b :: y => if a = b then lessV x y else lessB a b
theorem lessV_at : ∀ {a b : List ByteArray} {k : Nat} (h1 : k < a.length) (h2 : k < b.length), (∀ j (hj : j < k), (a[j]'(by omega)) = (b[j]'(by omega))) → a[k] ≠ b[k] → lessV a b = lessB a[k] b[k]
  | [], _, _, h, _, _, _ => by simp at h
  | _ :: _, [], _, _, h, _, _ => by simp at h
  | x :: a, y :: b, 0, _, _, _, hne => by
    rw [lessV, if_neg (by simpa using hne)]; rfl
  | x :: a, y :: b, k + 1, h1, h2, he, hne => by
    have h0 : x = y := he 0 (by omega)
    rw [lessV, if_pos h0]
    exact lessV_at (k := k) (by simpa using h1) (by simpa using h2) (fun j hj => by have := he (j + 1) (by omega); simpa using this) (by simpa using hne)
theorem lessV_end : ∀ {a b : List ByteArray}, (∀ j (h1 : j < a.length) (h2 : j < b.length), a[j] = b[j]) → lessV a b = decide (a.length < b.length)
  | [], [], _ => rfl
  | [], _ :: _, _ => by simp [lessV]
  | _ :: _, [], _ => by simp [lessV]
  | x :: a, y :: b, h => by
    have h0 : x = y := h 0 (by simp) (by simp)
    rw [lessV, if_pos h0, lessV_end (a := a) (b := b) (fun j h1 h2 => by have := h (j + 1) (by simpa using h1) (by simpa using h2); simpa using this)]
    simp
def lessN (a b : Need) : Bool := if a.key = b.key then (if a.op = b.op then lessV a.values b.values else decide (a.op < b.op)) else lessB a.key b.key
theorem lessB_irr (a : ByteArray) : lessB a a = false := less_irr _
theorem lessV_irr : ∀ a : List ByteArray, lessV a a = false
  | [] => rfl
  | a :: x => by rw [lessV, if_pos rfl]; exact lessV_irr x
theorem lessV_total : ∀ a b : List ByteArray, lessV a b = false → lessV b a = false → a = b
  | [], [], _, _ => rfl
  | [], _ :: _, h, _ => by simp [lessV] at h
  | _ :: _, [], _, h => by simp [lessV] at h
  | a :: x, b :: y, h1, h2 => by
    by_cases e : a = b
    · subst e
      rw [lessV, if_pos rfl] at h1 h2
      rw [lessV_total x y h1 h2]
    · rw [lessV, if_neg e] at h1
      rw [lessV, if_neg (fun h => e h.symm)] at h2
      exact absurd (key_same h1 h2) e
theorem lessN_irr (a : Need) : lessN a a = false := by unfold lessN; rw [if_pos rfl, if_pos rfl]; exact lessV_irr _
theorem lessN_total (a b : Need) (h1 : lessN a b = false) (h2 : lessN b a = false) : a = b := by
  unfold lessN at h1 h2
  by_cases ek : a.key = b.key
  · rw [if_pos ek] at h1
    rw [if_pos ek.symm] at h2
    by_cases eo : a.op = b.op
    · rw [if_pos eo] at h1
      rw [if_pos eo.symm] at h2
      have ev := lessV_total _ _ h1 h2
      cases a; cases b
      simp only at ek eo ev
      rw [ek, eo, ev]
    · rw [if_neg eo] at h1
      rw [if_neg (fun h => eo h.symm)] at h2
      simp at h1 h2
      omega
  · rw [if_neg ek] at h1
    rw [if_neg (fun h => ek h.symm)] at h2
    exact absurd (key_same h1 h2) ek
/-- A list of requirements, right as far as k. -/
def GoodN (l : List Need) (k : Nat) : Prop := ∀ i (h : i < l.length), i < k → NeedP l[i] ∧ ∀ m (hm : m + 1 = i), lessN (l[m]'(by omega)) l[i] = true
theorem goodN_next {l : List Need} {k : Nat} (h : GoodN l k) (hk : k < l.length) (h2 : NeedP l[k]) (h3 : ∀ m (hm : m + 1 = k), lessN (l[m]'(by omega)) l[k] = true) : GoodN l (k + 1) := fun i hi hik => by
  by_cases e : i = k
  · subst e; exact ⟨h2, h3⟩
  · exact h i hi (by omega)
def SelP (l : List Need) : Prop := l.length ≤ 4 ∧ GoodN l l.length
noncomputable def selF (l : List Need) (labs : List Label) : Bool := l.all (metF labs)
theorem sel_no {l : List Need} {labs : List Label} {k : Nat} (h : k < l.length) (h2 : metF labs l[k] = false) : selF l labs = false := by
  unfold selF
  cases e : l.all (metF labs) with
  | false => rfl
  | true =>
    have := List.all_eq_true.1 e l[k] (List.getElem_mem h)
    rw [h2] at this; cases this
theorem sel_yes {l : List Need} {labs : List Label} (h : ∀ k (hk : k < l.length), metF labs l[k] = true) : selF l labs = true := by
  unfold selF
  rw [List.all_eq_true]
  intro x hx
  obtain ⟨k, hk, rfl⟩ := List.getElem_of_mem hx
  exact h k hk
/-- Two lists the same, as far as k. -/
def SameTo (a b : List Need) (k : Nat) : Prop := ∀ i (h1 : i < a.length) (h2 : i < b.length), i < k → a[i] = b[i]
def SameNP (a b : List Need) : Prop := a.length = b.length ∧ SameTo a b a.length
theorem sameNP_iff {a b : List Need} : SameNP a b ↔ a = b := by
  constructor
  · rintro ⟨h1, h2⟩
    exact List.ext_getElem h1 fun i i1 i2 => h2 i i1 i2 i1
  · rintro rfl
    exact ⟨rfl, fun i _ _ _ => rfl⟩
/-- What NeedLine gives. -/
def opB (op : Int) : List UInt8 := if op = 1 then [105, 110] else if op = 2 then [110, 111, 116, 105, 110] else if op = 3 then [104, 97, 115] else [104, 97, 115, 110, 111, 116]
def valsB : List ByteArray → List UInt8
  | [] => []
  | [x] => x.data.toList
  | x :: y :: r => x.data.toList ++ 44 :: valsB (y :: r)
theorem valsB_snoc : ∀ (l : List ByteArray) (x : ByteArray), valsB (l ++ [x]) = if l = [] then x.data.toList else valsB l ++ 44 :: x.data.toList
  | [], x => rfl
  | [y], x => by simp [valsB]
  | y :: z :: r, x => by
    have ih := valsB_snoc (z :: r) x
    rw [if_neg (by simp)] at ih ⊢
    show y.data.toList ++ 44 :: valsB ((z :: r) ++ [x]) = _
    rw [ih]
    simp [valsB]
open Classical in
noncomputable def lineN (x : Need) : ByteArray := if NeedP x then ⟨(x.key.data.toList ++ 32 :: opB x.op ++ (if x.values = [] then [] else 32 :: valsB x.values)).toArray⟩ else ⟨#[]⟩
theorem lineN_no {x : Need} (h : ¬ NeedP x) : lineN x = ⟨#[]⟩ := by unfold lineN; rw [if_neg h]
theorem lineN_yes {x : Need} (h : NeedP x) : lineN x = ⟨(x.key.data.toList ++ 32 :: opB x.op ++ (if x.values = [] then [] else 32 :: valsB x.values)).toArray⟩ := by unfold lineN; rw [if_pos h]
/-- Sizes. -/
theorem wt_key (x : Need) : x.key.size ≤ x.wt := by unfold Need.wt; omega
theorem wt_vals (x : Need) : x.values.length ≤ x.wt := by unfold Need.wt; omega
theorem wt_val {x : Need} {k : Nat} (h : k < x.values.length) : x.values[k].size ≤ x.wt := by
  have := wsum_mem Str.wt h
  unfold Str.wt at this
  unfold Need.wt
  have e : wsum Str.wt x.values = wsum (fun s : ByteArray => s.size) x.values := rfl
  omega
end Go.Proofs.YtjcfaepklakpkaaGreatDoor.need
namespace Go.Proofs.YtjcfaepklakpkaaGreatDoor.dedup
open Go Go.RowKit
set_option linter.unusedVariables false
variable {α : Type}

def insD (lt : α → α → Bool) (x : α) : List α → List α
  | [] => [x]
  | y :: r => if lt y x = true then y :: insD lt x r else if lt x y = true then x :: y :: r else y :: r
/-- The elements in order, each once. -/
def dsort (lt : α → α → Bool) (l : List α) : List α := l.foldl (fun acc x => insD lt x acc) []
theorem dsort_snoc (lt : α → α → Bool) (l : List α) (x : α) : dsort lt (l ++ [x]) = insD lt x (dsort lt l) := by
  unfold dsort
  rw [List.foldl_append]
  rfl
theorem insD_stay {lt : α → α → Bool} {x : α} : ∀ {S : List α} {k : Nat} (hk : k < S.length), (∀ q (h : q < k), lt (S[q]'(by omega)) x = true) → lt S[k] x = false → lt x S[k] = false → insD lt x S = S
  | [], _, hk, _, _, _ => by simp at hk
  | y :: r, 0, _, _, h2, h3 => by
    simp only [List.getElem_cons_zero] at h2 h3
    rw [insD, if_neg (by rw [h2]; simp), if_neg (by rw [h3]; simp)]
  | y :: r, k + 1, hk, h1, h2, h3 => by
    have h0 := h1 0 (by omega)
    simp only [List.getElem_cons_zero] at h0
    rw [insD, if_pos h0, insD_stay (S := r) (k := k) (by simpa using hk) (fun q h => by have := h1 (q + 1) (by omega); simpa using this) (by simpa using h2) (by simpa using h3)]
theorem insD_put {lt : α → α → Bool} {x : α} : ∀ {S : List α} {k : Nat} (hk : k ≤ S.length), (∀ q (h : q < k), lt (S[q]'(by omega)) x = true) → (∀ h : k < S.length, lt S[k] x = false ∧ lt x S[k] = true) → insD lt x S = S.take k ++ x :: S.drop k
  | [], k, hk, _, _ => by
    have : k = 0 := by simpa using hk
    subst this
    rfl
  | y :: r, 0, _, _, h2 => by
    obtain ⟨h2, h3⟩ := h2 (by simp)
    simp only [List.getElem_cons_zero] at h2 h3
    rw [insD, if_neg (by rw [h2]; simp), if_pos h3]
    rfl
  | y :: r, k + 1, hk, h1, h2 => by
    have h0 := h1 0 (by omega)
    simp only [List.getElem_cons_zero] at h0
    rw [insD, if_pos h0, insD_put (S := r) (k := k) (by simpa using hk) (fun q h => by have := h1 (q + 1) (by omega); simpa using this) (fun h => by have := h2 (by simpa using h); simpa using this)]
    rfl
theorem insD_length (lt : α → α → Bool) (x : α) : ∀ S : List α, (insD lt x S).length ≤ S.length + 1
  | [] => Nat.le_refl _
  | y :: r => by
    have ih := insD_length lt x r
    rw [insD]
    split
    · simp only [List.length_cons]; omega
    split <;> simp
theorem insD_sub (lt : α → α → Bool) (x : α) : ∀ (S : List α) (y : α), y ∈ insD lt x S → y = x ∨ y ∈ S
  | [], y, h => by left; simpa [insD] using h
  | z :: r, y, h => by
    rw [insD] at h
    split at h
    · rcases List.mem_cons.1 h with rfl | h
      · exact .inr List.mem_cons_self
      · exact (insD_sub lt x r y h).imp id (List.mem_cons_of_mem _)
    split at h
    · rcases List.mem_cons.1 h with rfl | h
      · exact .inl rfl
      · exact .inr h
    · exact .inr h
theorem dsort_length (lt : α → α → Bool) (l : List α) : (dsort lt l).length ≤ l.length := by
  suffices h : ∀ (l acc : List α), (l.foldl (fun acc x => insD lt x acc) acc).length ≤ acc.length + l.length by simpa [dsort] using h l []
  intro l
  induction l with
  | nil => intro acc; simp
  | cons x l ih =>
    intro acc
    have h1 := ih (insD lt x acc)
    have h2 := insD_length lt x acc
    simp only [List.foldl_cons, List.length_cons]
    omega
theorem dsort_sub (lt : α → α → Bool) (l : List α) : ∀ y ∈ dsort lt l, y ∈ l := by
  suffices h : ∀ (l acc : List α) (y : α), y ∈ l.foldl (fun acc x => insD lt x acc) acc → y ∈ acc ∨ y ∈ l from fun y hy => by simpa using h l [] y hy
  intro l
  induction l with
  | nil => intro acc y h; exact .inl h
  | cons x l ih =>
    intro acc y h
    rcases ih _ _ h with h | h
    · rcases insD_sub lt x acc y h with rfl | h
      · exact .inr List.mem_cons_self
      · exact .inl h
    · exact .inr (List.mem_cons_of_mem _ h)
/-- An order in which of two that differ one is less. -/
structure Ord (lt : α → α → Bool) : Prop where
  irr : ∀ a, lt a a = false
  tot : ∀ a b, lt a b = false → lt b a = false → a = b
  tr : ∀ a b c, lt a b = true → lt b c = true → lt a c = true
def Asc (lt : α → α → Bool) (l : List α) : Prop := l.Pairwise fun a b => lt a b = true
theorem insD_has {lt : α → α → Bool} (o : Ord lt) (x : α) : ∀ S : List α, x ∈ insD lt x S ∧ ∀ y ∈ S, y ∈ insD lt x S
  | [] => ⟨by simp [insD], fun y h => by cases h⟩
  | z :: r => by
    obtain ⟨h1, h2⟩ := insD_has o x r
    rw [insD]
    split
    · refine ⟨List.mem_cons_of_mem _ h1, fun y hy => ?_⟩
      rcases List.mem_cons.1 hy with rfl | hy
      · exact List.mem_cons_self
      · exact List.mem_cons_of_mem _ (h2 y hy)
    split
    · exact ⟨List.mem_cons_self, fun y hy => List.mem_cons_of_mem _ hy⟩
    · rename_i a b
      have : z = x := o.tot _ _ (by simpa using a) (by simpa using b)
      subst this
      exact ⟨List.mem_cons_self, fun y hy => hy⟩
theorem insD_asc {lt : α → α → Bool} (o : Ord lt) (x : α) : ∀ S : List α, Asc lt S → Asc lt (insD lt x S)
  | [], _ => by simp [insD, Asc]
  | z :: r, h => by
    obtain ⟨h1, h2⟩ := List.pairwise_cons.1 h
    rw [insD]
    split
    · rename_i a
      refine List.pairwise_cons.2 ⟨fun y hy => ?_, insD_asc o x r h2⟩
      rcases insD_sub lt x r y hy with rfl | hy
      · exact a
      · exact h1 y hy
    split
    · rename_i a b
      refine List.pairwise_cons.2 ⟨fun y hy => ?_, h⟩
      rcases List.mem_cons.1 hy with rfl | hy
      · exact b
      · exact o.tr _ _ _ b (h1 y hy)
    · exact h
theorem dsort_all {lt : α → α → Bool} (o : Ord lt) (l : List α) : Asc lt (dsort lt l) ∧ ∀ y, y ∈ dsort lt l ↔ y ∈ l := by
  refine ⟨?_, fun y => ⟨dsort_sub lt l y, ?_⟩⟩
  · suffices h : ∀ (l acc : List α), Asc lt acc → Asc lt (l.foldl (fun acc x => insD lt x acc) acc) from h l [] List.Pairwise.nil
    intro l
    induction l with
    | nil => intro acc h; exact h
    | cons x l ih => intro acc h; exact ih _ (insD_asc o x acc h)
  · suffices h : ∀ (l acc : List α) (y : α), y ∈ acc ∨ y ∈ l → y ∈ l.foldl (fun acc x => insD lt x acc) acc from fun hy => h l [] y (.inr hy)
    intro l
    induction l with
    | nil => intro acc y h; exact h.elim id (fun h => by cases h)
    | cons x l ih =>
      intro acc y h
      refine ih _ y ?_
      obtain ⟨h1, h2⟩ := insD_has o x acc
      rcases h with h | h
      · exact .inl (h2 y h)
      · rcases List.mem_cons.1 h with rfl | h
        · exact .inl h1
        · exact .inr h
theorem asc_same {lt : α → α → Bool} (o : Ord lt) : ∀ a b : List α, Asc lt a → Asc lt b → (∀ y, y ∈ a ↔ y ∈ b) → a = b
  | [], [], _, _, _ => rfl
  | [], y :: b, _, _, h => absurd ((h y).2 List.mem_cons_self) (by simp)
  | x :: a, [], _, _, h => absurd ((h x).1 List.mem_cons_self) (by simp)
  | x :: a, y :: b, ha, hb, h => by
    obtain ⟨ha1, ha2⟩ := List.pairwise_cons.1 ha
    obtain ⟨hb1, hb2⟩ := List.pairwise_cons.1 hb
    have no : ∀ u v, lt u v = true → lt v u = true → False := fun u v h1 h2 => by
      have := o.tr _ _ _ h1 h2
      rw [o.irr] at this
      cases this
    have e : x = y := by
      rcases List.mem_cons.1 ((h x).1 List.mem_cons_self) with e | h1
      · exact e
      rcases List.mem_cons.1 ((h y).2 List.mem_cons_self) with e | h2
      · exact e.symm
      exact (no _ _ (ha1 _ h2) (hb1 _ h1)).elim
    subst e
    rw [asc_same o a b ha2 hb2 fun z => ?_]
    constructor
    · intro hz
      rcases List.mem_cons.1 ((h z).1 (List.mem_cons_of_mem _ hz)) with rfl | h1
      · have := ha1 _ hz
        rw [o.irr] at this
        cases this
      · exact h1
    · intro hz
      rcases List.mem_cons.1 ((h z).2 (List.mem_cons_of_mem _ hz)) with rfl | h1
      · have := hb1 _ hz
        rw [o.irr] at this
        cases this
      · exact h1
/-- Whoever puts the elements in order, each once, gives this list. -/
theorem dsort_is {lt : α → α → Bool} (o : Ord lt) (l r : List α) (h1 : Asc lt r) (h2 : ∀ y, y ∈ r ↔ y ∈ l) : r = dsort lt l :=
  asc_same o _ _ h1 (dsort_all o l).1 fun y => (h2 y).trans ((dsort_all o l).2 y).symm
/-- A list in order stands as it is. -/
theorem dsort_asc {lt : α → α → Bool} (o : Ord lt) (l : List α) (h : Asc lt l) : dsort lt l = l := (dsort_is o l l h fun y => Iff.rfl).symm
end Go.Proofs.YtjcfaepklakpkaaGreatDoor.dedup
namespace Go.Proofs.YtjcfaepklakpkaaGreatDoor.need
open Go Go.RowKit ty lab dedup
set_option linter.unusedVariables false

theorem lessB_tr (a b c : ByteArray) (h1 : lessB a b = true) (h2 : lessB b c = true) : lessB a c = true := less_trans _ _ _ h1 h2
theorem ordB : Ord lessB := ⟨lessB_irr, fun _ _ h1 h2 => key_same h1 h2, lessB_tr⟩
theorem lessB_ne {a b : ByteArray} (h : lessB a b = true) : a ≠ b := fun e => by rw [e, lessB_irr] at h; cases h
theorem lessV_tr : ∀ a b c : List ByteArray, lessV a b = true → lessV b c = true → lessV a c = true
  | [], [], _, h, _ => by simp [lessV] at h
  | _ :: _, [], _, h, _ => by simp [lessV] at h
  | _, _ :: _, [], _, h => by simp [lessV] at h
  | [], _ :: _, _ :: _, _, _ => rfl
  | a :: x, b :: y, c :: z, h1, h2 => by
    rw [lessV] at h1 h2 ⊢
    by_cases e1 : a = b
    · subst e1
      rw [if_pos rfl] at h1
      by_cases e2 : a = c
      · subst e2
        rw [if_pos rfl] at h2 ⊢
        exact lessV_tr x y z h1 h2
      · rw [if_neg e2] at h2 ⊢
        exact h2
    · rw [if_neg e1] at h1
      by_cases e2 : b = c
      · subst e2
        rw [if_neg e1]
        exact h1
      · rw [if_neg e2] at h2
        have h3 := lessB_tr _ _ _ h1 h2
        rw [if_neg (lessB_ne h3)]
        exact h3
theorem lessN_tr (a b c : Need) (h1 : lessN a b = true) (h2 : lessN b c = true) : lessN a c = true := by
  unfold lessN at h1 h2 ⊢
  by_cases k1 : a.key = b.key
  · rw [if_pos k1] at h1
    by_cases k2 : b.key = c.key
    · rw [if_pos k2] at h2
      rw [if_pos (k1.trans k2)]
      by_cases o1 : a.op = b.op
      · rw [if_pos o1] at h1
        by_cases o2 : b.op = c.op
        · rw [if_pos o2] at h2
          rw [if_pos (o1.trans o2)]
          exact lessV_tr _ _ _ h1 h2
        · rw [if_neg o2] at h2
          rw [if_neg (by rw [o1]; exact o2), o1]
          exact h2
      · rw [if_neg o1] at h1
        by_cases o2 : b.op = c.op
        · rw [if_neg (by rw [← o2]; exact o1), ← o2]
          exact h1
        · rw [if_neg o2] at h2
          simp only [decide_eq_true_eq] at h1 h2
          rw [if_neg (by omega)]
          simp only [decide_eq_true_eq]
          omega
    · rw [if_neg k2] at h2
      rw [if_neg (by rw [k1]; exact k2), k1]
      exact h2
  · rw [if_neg k1] at h1
    by_cases k2 : b.key = c.key
    · rw [if_neg (by rw [← k2]; exact k1), ← k2]
      exact h1
    · rw [if_neg k2] at h2
      have h3 := lessB_tr _ _ _ h1 h2
      rw [if_neg (lessB_ne h3)]
      exact h3
theorem ordN : Ord lessN := ⟨lessN_irr, lessN_total, lessN_tr⟩
def normN (x : Need) : Need := ⟨x.key, x.op, dsort lessB x.values⟩
def outN (l : List Need) : List Need := dsort lessN (l.map normN)
theorem outN_snoc (l : List Need) (x : Need) : outN (l ++ [x]) = insD lessN (normN x) (outN l) := by
  unfold outN
  rw [List.map_append]
  exact dsort_snoc _ _ _
theorem outN_length (l : List Need) : (outN l).length ≤ l.length := by
  have := dsort_length lessN (l.map normN)
  rwa [List.length_map] at this
def FewN (l : List Need) (k : Nat) : Prop := ∀ i (h : i < l.length), i < k → l[i].values.length ≤ 40
open Classical in
noncomputable def sortN (l : List Need) : List Need × Bool := if l.length ≤ 40 ∧ FewN l l.length ∧ SelP (outN l) then (outN l, true) else (l, false)
theorem sortN_yes {l : List Need} (h : l.length ≤ 40 ∧ FewN l l.length ∧ SelP (outN l)) : sortN l = (outN l, true) := by unfold sortN; rw [if_pos h]
theorem sortN_no {l : List Need} (h : ¬ (l.length ≤ 40 ∧ FewN l l.length ∧ SelP (outN l))) : sortN l = (l, false) := by unfold sortN; rw [if_neg h]
theorem sortN_len {l : List Need} (h : l.length ≤ 1048576) : (sortN l).1.length ≤ 1048576 := by
  by_cases h2 : l.length ≤ 40 ∧ FewN l l.length ∧ SelP (outN l)
  · rw [sortN_yes h2]
    exact Nat.le_trans (outN_length l) h
  · rw [sortN_no h2]
    exact h
theorem sum_ins {α : Type} (lt : α → α → Bool) (f : α → Nat) (x : α) : ∀ S : List α, wsum f (insD lt x S) ≤ f x + wsum f S
  | [] => by simp [insD, wsum]
  | y :: r => by
    have ih := sum_ins lt f x r
    rw [insD]
    split
    · simp only [wsum, List.map_cons, List.sum_cons] at ih ⊢; omega
    split
    · simp only [wsum, List.map_cons, List.sum_cons]; omega
    · simp only [wsum, List.map_cons, List.sum_cons]; omega
theorem sum_dsort {α : Type} (lt : α → α → Bool) (f : α → Nat) (l : List α) : wsum f (dsort lt l) ≤ wsum f l := by
  suffices h : ∀ (l acc : List α), wsum f (l.foldl (fun acc x => insD lt x acc) acc) ≤ wsum f acc + wsum f l by simpa [dsort, wsum] using h l []
  intro l
  induction l with
  | nil => intro acc; simp [wsum]
  | cons x l ih =>
    intro acc
    have h1 := ih (insD lt x acc)
    have h2 := sum_ins lt f x acc
    simp only [List.foldl_cons]
    have e : wsum f (x :: l) = f x + wsum f l := by simp [wsum]
    omega
theorem cost_norm (x : Need) : (normN x).cost ≤ x.cost := by
  have := sum_dsort lessB Str.cost x.values
  unfold Need.cost normN
  simp only
  omega
theorem cost_out (l : List Need) : wsum Need.cost (outN l) ≤ wsum Need.cost l := by
  refine Nat.le_trans (sum_dsort lessN Need.cost (l.map normN)) ?_
  induction l with
  | nil => simp [wsum]
  | cons x l ih =>
    have := cost_norm x
    simp only [wsum, List.map_cons, List.sum_cons] at ih ⊢
    omega
theorem cost_str (l : List ByteArray) : wsum Str.cost l ≤ l.length := by
  induction l with
  | nil => simp [wsum]
  | cons x l ih =>
    have : Str.cost x ≤ 1 := by unfold Str.cost; omega
    simp only [wsum, List.map_cons, List.sum_cons, List.length_cons] at ih ⊢
    omega
theorem cost_wt (l : List Need) : wsum Need.cost l ≤ 2 * l.length + wsum Need.wt l := by
  induction l with
  | nil => simp [wsum]
  | cons x l ih =>
    have h1 := cost_str x.values
    have h2 := wt_vals x
    have h3 : x.cost ≤ 2 + x.wt := by unfold Need.cost; omega
    simp only [wsum, List.map_cons, List.sum_cons, List.length_cons] at ih ⊢
    omega
theorem sortN_cost {l : List Need} (h : l.length + wsum Need.wt l ≤ 1048576) : wsum Need.cost (sortN l).1 ≤ 2097152 := by
  have h1 := cost_wt l
  by_cases h2 : l.length ≤ 40 ∧ FewN l l.length ∧ SelP (outN l)
  · rw [sortN_yes h2]
    have := cost_out l
    show wsum Need.cost (outN l) ≤ 2097152
    omega
  · rw [sortN_no h2]
    show wsum Need.cost l ≤ 2097152
    omega
end Go.Proofs.YtjcfaepklakpkaaGreatDoor.need
namespace Go.Proofs.YtjcfaepklakpkaaGreatDoor.arith
open Go.ChangeShapes Go.WideShapes Go.ChangeAt Go.RowKit
set_option linter.unusedVariables false

/-- The number of a checked result (0 for none) and whether there is one. -/
def val : Option Int → Int
  | some x => x
  | none => 0
def has : Option Int → Bool
  | some _ => true
  | none => false
def two (o : Option Int) : Value := .tuple #[.int .i64 (val o), .bool (has o)]
theorem two_some (x : Int) : two (some x) = .tuple #[.int .i64 x, .bool true] := rfl
theorem two_none : two none = .tuple #[.int .i64 0, .bool false] := rfl

def addF (a b : Int) : Option Int := if 0 ≤ a ∧ 0 ≤ b ∧ a + b ≤ 9223372036854775807 then some (a + b) else none
def subF (a b : Int) : Option Int := if 0 ≤ b ∧ b ≤ a then some (a - b) else none
def mulF (a b : Int) : Option Int := if 0 ≤ a ∧ 0 ≤ b ∧ a * b ≤ 9223372036854775807 then some (a * b) else none
def cmpF (a b : Int) : Int := if a < b then -1 else if b < a then 1 else 0
def powF (b : Int) : Nat → Option Int
  | 0 => some 1
  | k + 1 => (powF b k).bind fun x => mulF x b
def pow2F (b n : Int) : Option Int := if 0 ≤ b ∧ 0 ≤ n ∧ n ≤ 100 then powF b n.toNat else none
def sumStep (o : Option Int) (x : Int) : Option Int := o.bind fun s => addF s x
def sumF (l : List Int) : Option Int := l.foldl sumStep (some 0)

theorem add_yes {a b : Int} (h0 : 0 ≤ a) (h1 : 0 ≤ b) (h2 : a + b ≤ 9223372036854775807) : addF a b = some (a + b) := by unfold addF; rw [if_pos ⟨h0, h1, h2⟩]
theorem add_no {a b : Int} (h : ¬ (0 ≤ a ∧ 0 ≤ b ∧ a + b ≤ 9223372036854775807)) : addF a b = none := by unfold addF; rw [if_neg h]
theorem add_bd {a b x : Int} (h : addF a b = some x) : 0 ≤ a ∧ 0 ≤ b ∧ x = a + b ∧ x ≤ 9223372036854775807 := by
  unfold addF at h
  split at h
  · injection h with h; rename_i h2; exact ⟨h2.1, h2.2.1, h.symm, h ▸ h2.2.2⟩
  · cases h
theorem sub_yes {a b : Int} (h0 : 0 ≤ b) (h1 : b ≤ a) : subF a b = some (a - b) := by unfold subF; rw [if_pos ⟨h0, h1⟩]
theorem sub_no {a b : Int} (h : ¬ (0 ≤ b ∧ b ≤ a)) : subF a b = none := by unfold subF; rw [if_neg h]
theorem mul_yes {a b : Int} (h0 : 0 ≤ a) (h1 : 0 ≤ b) (h2 : a * b ≤ 9223372036854775807) : mulF a b = some (a * b) := by unfold mulF; rw [if_pos ⟨h0, h1, h2⟩]
theorem mul_no {a b : Int} (h : ¬ (0 ≤ a ∧ 0 ≤ b ∧ a * b ≤ 9223372036854775807)) : mulF a b = none := by unfold mulF; rw [if_neg h]
theorem mul_bd {a b x : Int} (h : mulF a b = some x) : 0 ≤ a ∧ 0 ≤ b ∧ x = a * b ∧ 0 ≤ x ∧ x ≤ 9223372036854775807 := by
  unfold mulF at h
  split at h
  · injection h with h; rename_i h2; exact ⟨h2.1, h2.2.1, h.symm, h ▸ Int.mul_nonneg h2.1 h2.2.1, h ▸ h2.2.2⟩
  · cases h
/-- Room for a product, as the division by b tells it. -/
theorem room {a b : Int} (h1 : 0 < b) : a ≤ 9223372036854775807 / b ↔ a * b ≤ 9223372036854775807 := Int.le_ediv_iff_mul_le h1

theorem pow_zero (b : Int) : powF b 0 = some 1 := rfl
theorem pow_some {b x : Int} {k : Nat} (h : powF b k = some x) : powF b (k + 1) = mulF x b := by show (powF b k).bind _ = _; rw [h]; rfl
theorem pow_none {b : Int} {k : Nat} (h : powF b k = none) : powF b (k + 1) = none := by show (powF b k).bind _ = _; rw [h]; rfl
theorem pow_dead {b : Int} {k : Nat} (h : powF b k = none) : ∀ n, k ≤ n → powF b n = none := by
  intro n hn
  induction n with
  | zero => obtain rfl : k = 0 := by omega
            exact h
  | succ n ih =>
    by_cases e : k = n + 1
    · subst e; exact h
    · exact pow_none (ih (by omega))
theorem pow_bd {b x : Int} {k : Nat} (h : powF b k = some x) : 0 ≤ x ∧ x ≤ 9223372036854775807 := by
  cases k with
  | zero => injection h with h; omega
  | succ k =>
    cases hp : powF b k with
    | none => rw [pow_none hp] at h; cases h
    | some y => rw [pow_some hp] at h; exact (mul_bd h).2.2.2
theorem pow2_yes {b : Int} {n : Nat} (h0 : 0 ≤ b) (h1 : n ≤ 100) : pow2F b n = powF b n := by unfold pow2F; rw [if_pos ⟨h0, by omega, by omega⟩]; rfl
theorem pow2_no {b n : Int} (h : ¬ (0 ≤ b ∧ 0 ≤ n ∧ n ≤ 100)) : pow2F b n = none := by unfold pow2F; rw [if_neg h]

theorem sum_zero (l : List Int) : sumF (l.take 0) = some 0 := by simp [sumF]
theorem sum_take {l : List Int} {k : Nat} (hk : k < l.length) : sumF (l.take (k + 1)) = (sumF (l.take k)).bind fun s => addF s (l.getD k 0) := by
  rw [List.take_succ_eq_append_getElem hk]
  unfold sumF
  rw [List.foldl_append, List.getD_eq_getElem?_getD, List.getElem?_eq_getElem hk]
  rfl
theorem sum_go {l : List Int} {k : Nat} {s : Int} (hk : k < l.length) (h : sumF (l.take k) = some s) : sumF (l.take (k + 1)) = addF s (l.getD k 0) := by rw [sum_take hk, h]; rfl
theorem sum_dead {l : List Int} {k : Nat} (h : sumF (l.take k) = none) : sumF l = none := by
  have e : sumF l = (l.drop k).foldl sumStep (sumF (l.take k)) := by
    unfold sumF
    rw [← List.foldl_append, List.take_append_drop]
  rw [e, h]
  clear e h
  induction l.drop k with
  | nil => rfl
  | cons a r ih => exact ih
theorem sum_bd : ∀ (k : Nat) {l : List Int} {s : Int}, k ≤ l.length → sumF (l.take k) = some s → 0 ≤ s ∧ s ≤ 9223372036854775807
  | 0, l, s, _, h => by rw [sum_zero] at h; injection h with h; omega
  | k + 1, l, s, hk, h => by
    cases hp : sumF (l.take k) with
    | none => rw [sum_take (by omega), hp] at h; cases h
    | some y =>
      rw [sum_go (by omega) hp] at h
      have := sum_bd k (by omega) hp
      have := add_bd h
      omega

end Go.Proofs.YtjcfaepklakpkaaGreatDoor.arith
namespace Go.Proofs.YtjcfaepklakpkaaGreatDoor.need
open Go Go.RowKit ty lab dedup
set_option linter.unusedVariables false

def cmpB (a b : ByteArray) : Int := Lib.compareBytes a.data.toList b.data.toList
theorem cmpL_less : ∀ a b : List UInt8, decide (Lib.compareBytes a b < 0) = Op.bytesLess a b
  | [], [] => rfl
  | [], _ :: _ => rfl
  | _ :: _, [] => rfl
  | a :: x, b :: y => by
    rw [Lib.compareBytes, Op.bytesLess]
    by_cases h1 : a < b
    · simp [h1]
    · rw [if_neg h1]
      by_cases h2 : b < a
      · rw [if_pos h2]
        have : (a == b) = false := by rw [beq_eq_false_iff_ne]; rintro rfl; exact h1 h2
        simp [h1, this]
      · rw [if_neg h2, cmpL_less x y]
        obtain rfl : a = b := by
          rw [UInt8.lt_iff_toNat_lt] at h1 h2
          exact UInt8.toNat_inj.1 (by omega)
        simp [h1]
theorem cmpL_zero : ∀ a b : List UInt8, Lib.compareBytes a b = 0 → a = b
  | [], [], _ => rfl
  | [], _ :: _, h => by simp [Lib.compareBytes] at h
  | _ :: _, [], h => by simp [Lib.compareBytes] at h
  | a :: x, b :: y, h => by
    rw [Lib.compareBytes] at h
    by_cases h1 : a < b
    · rw [if_pos h1] at h; cases h
    · rw [if_neg h1] at h
      by_cases h2 : b < a
      · rw [if_pos h2] at h; cases h
      · rw [if_neg h2] at h
        rw [UInt8.lt_iff_toNat_lt] at h1 h2
        obtain rfl : a = b := UInt8.toNat_inj.1 (by omega)
        rw [cmpL_zero x y h]
theorem cmpL_self : ∀ a : List UInt8, Lib.compareBytes a a = 0
  | [] => rfl
  | a :: x => by
    have : ¬ a < a := fun h => by rw [UInt8.lt_iff_toNat_lt] at h; omega
    rw [Lib.compareBytes, if_neg this, if_neg this, cmpL_self x]
theorem cmpB_less (a b : ByteArray) : decide (cmpB a b < 0) = lessB a b := by
  unfold cmpB lessB
  rw [cmpL_less, ByteArray.toList_eq, ByteArray.toList_eq]
theorem cmpB_zero {a b : ByteArray} (h : cmpB a b = 0) : a = b := by
  have := cmpL_zero _ _ h
  apply ByteArray.ext
  exact Array.ext' this
theorem cmpB_self (a : ByteArray) : cmpB a a = 0 := cmpL_self _
theorem cmpB_way (a b : ByteArray) : cmpB a b = 0 ∧ a = b ∨ cmpB a b < 0 ∧ a ≠ b ∧ lessB a b = true ∨ 0 < cmpB a b ∧ a ≠ b ∧ lessB a b = false := by
  have h := cmpB_less a b
  rcases Int.lt_trichotomy (cmpB a b) 0 with h1 | h1 | h1
  · exact .inr (.inl ⟨h1, fun e => by subst e; rw [cmpB_self] at h1; omega, by rw [← h]; exact decide_eq_true h1⟩)
  · exact .inl ⟨h1, cmpB_zero h1⟩
  · exact .inr (.inr ⟨h1, fun e => by subst e; rw [cmpB_self] at h1; omega, by rw [← h]; exact decide_eq_false (by omega)⟩)
/-- What slices.Compare gives. -/
def cmpV : List ByteArray → List ByteArray → Int
  | [], [] => 0
  | [], _ :: _ => -1
  | _ :: _, [] => 1
  | a :: x, b :: y => if cmpB a b = 0 then cmpV x y else cmpB a b
theorem cmpV_at : ∀ {a b : List ByteArray} {k : Nat} (h1 : k < a.length) (h2 : k < b.length), (∀ j (hj : j < k), (a[j]'(by omega)) = (b[j]'(by omega))) → cmpB a[k] b[k] ≠ 0 → cmpV a b = cmpB a[k] b[k]
  | [], _, _, h, _, _, _ => by simp at h
  | _ :: _, [], _, _, h, _, _ => by simp at h
  | x :: a, y :: b, 0, _, _, _, hne => by
    rw [cmpV, if_neg (by simpa using hne)]; rfl
  | x :: a, y :: b, k + 1, h1, h2, he, hne => by
    have h0 : x = y := he 0 (by omega)
    rw [cmpV, if_pos (by rw [h0]; exact cmpB_self _)]
    exact cmpV_at (k := k) (by simpa using h1) (by simpa using h2) (fun j hj => by have := he (j + 1) (by omega); simpa using this) (by simpa using hne)
theorem cmpV_end : ∀ {a b : List ByteArray}, (∀ j (h1 : j < a.length) (h2 : j < b.length), a[j] = b[j]) → cmpV a b = if b.length < a.length then 1 else if a.length < b.length then -1 else 0
  | [], [], _ => rfl
  | [], _ :: _, _ => by simp [cmpV]
  | _ :: _, [], _ => by simp [cmpV]
  | x :: a, y :: b, h => by
    have h0 : x = y := h 0 (by simp) (by simp)
    rw [cmpV, if_pos (by rw [h0]; exact cmpB_self _), cmpV_end (a := a) (b := b) (fun j h1 h2 => by have := h (j + 1) (by simpa using h1) (by simpa using h2); simpa using this)]
    simp
theorem cmpV_way : ∀ a b : List ByteArray, cmpV a b = 0 ∧ a = b ∨ cmpV a b < 0 ∧ a ≠ b ∧ lessV a b = true ∨ 0 < cmpV a b ∧ a ≠ b ∧ lessV a b = false
  | [], [] => .inl ⟨rfl, rfl⟩
  | [], _ :: _ => .inr (.inl ⟨by rw [cmpV]; decide, by simp, rfl⟩)
  | _ :: _, [] => .inr (.inr ⟨by rw [cmpV]; decide, by simp, rfl⟩)
  | a :: x, b :: y => by
    rw [cmpV, lessV]
    rcases cmpB_way a b with ⟨h1, h2⟩ | ⟨h1, h2, h3⟩ | ⟨h1, h2, h3⟩
    · rw [if_pos h1, if_pos h2]
      subst h2
      rcases cmpV_way x y with ⟨g1, g2⟩ | ⟨g1, g2, g3⟩ | ⟨g1, g2, g3⟩
      · exact .inl ⟨g1, by rw [g2]⟩
      · exact .inr (.inl ⟨g1, by simpa using g2, g3⟩)
      · exact .inr (.inr ⟨g1, by simpa using g2, g3⟩)
    · rw [if_neg (by omega), if_neg h2]
      exact .inr (.inl ⟨h1, by simp [h2], h3⟩)
    · rw [if_neg (by omega), if_neg h2]
      exact .inr (.inr ⟨h1, by simp [h2], h3⟩)
/-- What cmp.Or gives of three. -/
def orI (a b c : Int) : Int := if a = 0 then (if b = 0 then c else b) else a
def cmpN (a b : Need) : Int := orI (cmpB a.key b.key) (arith.cmpF a.op b.op) (cmpV a.values b.values)
theorem need_ext {a b : Need} (h1 : a.key = b.key) (h2 : a.op = b.op) (h3 : a.values = b.values) : a = b := by
  cases a; cases b
  simp only at h1 h2 h3
  rw [h1, h2, h3]
theorem cmpN_way (a b : Need) : cmpN a b = 0 ∧ a = b ∨ cmpN a b < 0 ∧ a ≠ b ∧ lessN a b = true ∨ 0 < cmpN a b ∧ a ≠ b ∧ lessN a b = false := by
  unfold cmpN lessN orI arith.cmpF
  rcases cmpB_way a.key b.key with ⟨h1, h2⟩ | ⟨h1, h2, h3⟩ | ⟨h1, h2, h3⟩
  · rw [if_pos h1, if_pos h2]
    by_cases ho : a.op = b.op
    · rw [if_neg (show ¬ a.op < b.op by omega), if_neg (show ¬ b.op < a.op by omega), if_pos rfl, if_pos ho]
      rcases cmpV_way a.values b.values with ⟨g1, g2⟩ | ⟨g1, g2, g3⟩ | ⟨g1, g2, g3⟩
      · exact .inl ⟨g1, need_ext h2 ho g2⟩
      · exact .inr (.inl ⟨g1, fun e => g2 (by rw [e]), g3⟩)
      · exact .inr (.inr ⟨g1, fun e => g2 (by rw [e]), g3⟩)
    · rw [if_neg ho]
      by_cases h : a.op < b.op
      · rw [if_pos h]
        exact .inr (.inl ⟨by rw [if_neg (by omega)]; omega, fun e => ho (by rw [e]), decide_eq_true h⟩)
      · rw [if_neg h, if_pos (show b.op < a.op by omega)]
        exact .inr (.inr ⟨by rw [if_neg (by omega)]; omega, fun e => ho (by rw [e]), decide_eq_false h⟩)
  · rw [if_neg (by omega), if_neg h2]
    exact .inr (.inl ⟨h1, fun e => h2 (by rw [e]), h3⟩)
  · rw [if_neg (by omega), if_neg h2]
    exact .inr (.inr ⟨h1, fun e => h2 (by rw [e]), h3⟩)
theorem cmpN_less (a b : Need) : decide (cmpN a b < 0) = lessN a b := by
  rcases cmpN_way a b with ⟨h1, h2⟩ | ⟨h1, _, h3⟩ | ⟨h1, _, h3⟩
  · subst h2; rw [h1, lessN_irr]; rfl
  · rw [h3]; exact decide_eq_true h1
  · rw [h3]; exact decide_eq_false (by omega)
theorem cmpN_zero (a b : Need) : decide (cmpN a b = 0) = yes (a = b) := by
  rcases cmpN_way a b with ⟨h1, h2⟩ | ⟨h1, h2, h3⟩ | ⟨h1, h2, h3⟩
  · rw [yes_t h2]; exact decide_eq_true h1
  · rw [yes_f h2]; exact decide_eq_false (by omega)
  · rw [yes_f h2]; exact decide_eq_false (by omega)
theorem bd_cmpL : ∀ a b : List UInt8, -1 ≤ Lib.compareBytes a b ∧ Lib.compareBytes a b ≤ 1
  | [], [] => by simp [Lib.compareBytes]
  | [], _ :: _ => by simp [Lib.compareBytes]
  | _ :: _, [] => by simp [Lib.compareBytes]
  | a :: x, b :: y => by
    rw [Lib.compareBytes]
    by_cases h1 : a < b
    · rw [if_pos h1]; omega
    · rw [if_neg h1]
      by_cases h2 : b < a
      · rw [if_pos h2]; omega
      · rw [if_neg h2]; exact bd_cmpL x y
end Go.Proofs.YtjcfaepklakpkaaGreatDoor.need
namespace Go.Proofs.YtjcfaepklakpkaaGreatDoor.dedup
open Go Go.RowKit
set_option linter.unusedVariables false
variable {α β : Type}

open Classical in
noncomputable def sqTo (κ : α → β) (l : List α) : Nat → List α
  | 0 => []
  | j + 1 => if h : j < l.length then (if ∃ m, ∃ hm : m + 1 = j, κ l[j] = κ (l[m]'(by omega)) then sqTo κ l j else sqTo κ l j ++ [l[j]]) else sqTo κ l j
theorem sq_same {κ : α → β} {l : List α} {m : Nat} (h : m + 1 < l.length) (he : κ l[m + 1] = κ l[m]) : sqTo κ l (m + 2) = sqTo κ l (m + 1) := by
  rw [sqTo, dif_pos h, if_pos ⟨m, rfl, he⟩]
theorem sq_next {κ : α → β} {l : List α} {m : Nat} (h : m + 1 < l.length) (he : κ l[m + 1] ≠ κ l[m]) : sqTo κ l (m + 2) = sqTo κ l (m + 1) ++ [l[m + 1]] := by
  rw [sqTo, dif_pos h, if_neg]
  rintro ⟨m', hm, e⟩
  obtain rfl : m' = m := by omega
  exact he e
theorem sq_one {κ : α → β} {l : List α} (h : 0 < l.length) : sqTo κ l 1 = [l[0]] := by
  rw [sqTo, dif_pos h, if_neg]
  · rfl
  · rintro ⟨m', hm, _⟩
    omega
theorem sq_length (κ : α → β) (l : List α) : ∀ j, (sqTo κ l j).length ≤ j
  | 0 => Nat.le_refl _
  | j + 1 => by
    have ih := sq_length κ l j
    rw [sqTo]
    split
    · split
      · omega
      · simp; omega
    · omega
/-- As long as no element stands beside its like, all of them. -/
theorem sq_take {κ : α → β} {l : List α} : ∀ {j : Nat}, j ≤ l.length → (∀ m (h : m + 1 < l.length), m + 1 < j → κ l[m + 1] ≠ κ l[m]) → sqTo κ l j = l.take j
  | 0, _, _ => rfl
  | 1, h, _ => by
    rw [sq_one (by omega)]
    match l, h with
    | x :: r, _ => rfl
  | j + 2, h, hn => by
    rw [sq_next (by omega) (hn j (by omega) (by omega)), sq_take (j := j + 1) (by omega) (fun m hm hj => hn m hm (by omega))]
    rw [List.take_succ_eq_append_getElem (by omega)]
    simp
theorem sq_map (κ : α → β) (l : List α) : ∀ j, (sqTo κ l j).map κ = sqTo id (l.map κ) j
  | 0 => rfl
  | j + 1 => by
    have ih := sq_map κ l j
    rw [sqTo, sqTo]
    by_cases h : j < l.length
    · rw [dif_pos h, dif_pos (by simpa using h)]
      by_cases he : ∃ m, ∃ hm : m + 1 = j, κ l[j] = κ (l[m]'(by omega))
      · rw [if_pos he, if_pos (by obtain ⟨m, hm, e⟩ := he; exact ⟨m, hm, by simpa using e⟩)]
        exact ih
      · rw [if_neg he, if_neg (by rintro ⟨m, hm, e⟩; exact he ⟨m, hm, by simpa using e⟩), List.map_append, ih]
        simp
    · rw [dif_neg h, dif_neg (by simpa using h)]
      exact ih
theorem sq_sub (κ : α → β) (l : List α) : ∀ j, j ≤ l.length → (sqTo κ l j).Sublist (l.take j)
  | 0, _ => List.nil_sublist _
  | j + 1, h => by
    have ih := sq_sub κ l j (by omega)
    rw [sqTo, dif_pos (by omega), List.take_succ_eq_append_getElem (by omega)]
    split
    · exact ih.trans (List.sublist_append_left _ _)
    · exact ih.append (List.Sublist.refl _)
theorem sq_mem (l : List α) : ∀ j, j ≤ l.length → ∀ y, y ∈ sqTo id l j ↔ y ∈ l.take j
  | 0, _, y => by simp [sqTo]
  | 1, h, y => by
    rw [sq_one (by omega)]
    match l, h with
    | x :: r, _ => simp
  | j + 2, h, y => by
    have ih := sq_mem l (j + 1) (by omega) y
    rw [List.take_succ_eq_append_getElem (by omega), List.mem_append, ← ih]
    by_cases he : l[j + 1] = l[j]
    · rw [sq_same (κ := id) (by omega) he, he]
      constructor
      · exact .inl
      · rintro (h1 | h1)
        · exact h1
        · obtain rfl : y = l[j] := by simpa using h1
          refine (sq_mem l (j + 1) (by omega) _).2 ?_
          rw [List.take_succ_eq_append_getElem (by omega)]
          exact List.mem_append.2 (.inr (List.mem_singleton.2 rfl))
    · rw [sq_next (κ := id) (by omega) he, List.mem_append]
theorem sq_asc {lt : α → α → Bool} (o : Ord lt) {l : List α} (hw : l.Pairwise fun a b => lt b a = false) : ∀ j, j ≤ l.length → Asc lt (sqTo id l j)
  | 0, _ => List.Pairwise.nil
  | 1, h => by rw [sq_one (by omega)]; exact List.pairwise_singleton _ _
  | j + 2, h => by
    have ih := sq_asc o hw (j + 1) (by omega)
    by_cases he : l[j + 1] = l[j]
    · rw [sq_same (κ := id) (by omega) he]; exact ih
    · rw [sq_next (κ := id) (by omega) he]
      refine List.pairwise_append.2 ⟨ih, List.pairwise_singleton _ _, fun a ha b hb => ?_⟩
      obtain rfl : b = l[j + 1] := by simpa using hb
      rw [sq_mem l (j + 1) (by omega)] at ha
      obtain ⟨i, hi, rfl⟩ := List.getElem_of_mem ha
      have hi1 : i < j + 1 := by rw [List.length_take] at hi; omega
      rw [List.getElem_take]
      rw [List.pairwise_iff_getElem] at hw
      have hlt : lt l[j] l[j + 1] = true := by
        cases hc : lt l[j] l[j + 1] with
        | true => rfl
        | false => exact absurd (o.tot _ _ hc (hw j (j + 1) (by omega) (by omega) (by omega))).symm he
      by_cases e : i = j
      · subst e; exact hlt
      · have h3 := hw i j (by omega) (by omega) (by omega)
        cases hc : lt l[i] l[j] with
        | true => exact o.tr _ _ _ hc hlt
        | false =>
          have := o.tot _ _ hc h3
          rw [this]; exact hlt
/-- Sorted, then without repetitions: each element once, in order. -/
theorem sq_dsort {lt : α → α → Bool} (o : Ord lt) {l d : List α} (hp : List.Perm d l) (hw : d.Pairwise fun a b => lt b a = false) : sqTo id d d.length = dsort lt l :=
  dsort_is o l _ (sq_asc o hw _ (Nat.le_refl _)) fun y => by rw [sq_mem d _ (Nat.le_refl _), List.take_length]; exact hp.mem_iff
/-- Where the second loop of slices.CompactFunc stands: j elements seen, kk kept. -/
structure Comp (κ : α → β) (l : List α) (j kk : Nat) (dk : List α) : Prop where
  len : dk.length = l.length
  out : dk.take kk = sqTo κ l j
  klen : (sqTo κ l j).length = kk
  lt : kk < j
  le : j ≤ l.length
  high : ∀ i (h : i < dk.length) (h2 : i < l.length), j ≤ i + 1 → dk[i] = l[i]
theorem Comp.start {κ : α → β} {l : List α} {m : Nat} (h : m + 1 < l.length) (hn : ∀ q (h : q + 1 < l.length), q + 1 < m + 1 → κ l[q + 1] ≠ κ l[q]) (he : κ l[m + 1] = κ l[m]) : Comp κ l (m + 2) (m + 1) l := by
  have e : sqTo κ l (m + 2) = l.take (m + 1) := by rw [sq_same h he, sq_take (by omega) hn]
  exact ⟨rfl, e.symm, by rw [e, List.length_take]; omega, by omega, by omega, fun i _ _ _ => rfl⟩
theorem Comp.skip {κ : α → β} {l dk : List α} {m kk : Nat} (c : Comp κ l (m + 1) kk dk) (h : m + 1 < l.length) (he : κ l[m + 1] = κ l[m]) : Comp κ l (m + 2) kk dk := by
  have e := sq_same h he
  exact ⟨c.len, by rw [e]; exact c.out, by rw [e]; exact c.klen, by have := c.lt; omega, by omega, fun i h1 h2 h3 => c.high i h1 h2 (by omega)⟩
theorem Comp.keep {κ : α → β} {l dk : List α} {m kk : Nat} (c : Comp κ l (m + 1) kk dk) (h : m + 1 < l.length) (he : κ l[m + 1] ≠ κ l[m]) : Comp κ l (m + 2) (kk + 1) (dk.set kk l[m + 1]) := by
  have e := sq_next h he
  have h1 := c.lt
  have h2 := c.len
  refine ⟨by simp [h2], ?_, by rw [e, List.length_append, c.klen]; rfl, by omega, by omega, fun i i1 i2 i3 => ?_⟩
  · rw [e, ← c.out, List.take_succ_eq_append_getElem (by simp; omega), List.getElem_set_self]
    congr 1
    rw [List.take_set_of_le (by omega)]
  · rw [List.getElem_set_ne (by omega)]
    exact c.high i _ i2 (by omega)
theorem sq_all {κ : α → β} {l : List α} (hn : ∀ q (h : q + 1 < l.length), κ l[q + 1] ≠ κ l[q]) : sqTo κ l l.length = l := by
  rw [sq_take (Nat.le_refl _) (fun q h _ => hn q h), List.take_length]
end Go.Proofs.YtjcfaepklakpkaaGreatDoor.dedup
