/- Merged: NeedM SumD SortNM TaintM PodM LabS Box2. -/
import Derived.Test.YtcfbkfmkjggcdaaGreatDoorGA3
import Derived.Test.YtcfbkfmkjggcdaaGreatDoorGA4
import Derived.Test.YtcfbkfmkjggcdaaGreatDoorGA0
import Derived.Test.YtcfbkfmkjggcdaaGreatDoorGA1
import Derived.Laws.Cover1
namespace Go.Proofs.YtcfbkfmkjggcdaaGreatDoor.need
open Go Go.RowKit ty lab
set_option linter.unusedVariables false

/-- The first k values are right, in order. -/
def GoodV (l : List ByteArray) (k : Nat) : Prop := ∀ i (h : i < l.length), i < k → ValP l[i] ∧ ∀ m (hm : m + 1 = i), lessB (l[m]'(by omega)) l[i] = true
theorem goodV_next {l : List ByteArray} {k : Nat} (h : GoodV l k) (hk : k < l.length) (h2 : ValP l[k]) (h3 : ∀ m (hm : m + 1 = k), lessB (l[m]'(by omega)) l[k] = true) : GoodV l (k + 1) := fun i hi hik => by
  by_cases e : i = k
  · subst e; exact ⟨h2, h3⟩
  · exact h i hi (by omega)
structure NeedP (x : Need) : Prop where
  key : KeyP x.key
  lo : 1 ≤ x.op
  hi : x.op ≤ 4
  none : 3 ≤ x.op → x.values.length = 0
  some : x.op < 3 → 1 ≤ x.values.length ∧ x.values.length ≤ 4 ∧ GoodV x.values x.values.length
/-- Is the requirement met, given what LabelAt gives. -/
noncomputable def metO (o : Option ByteArray) (x : Need) : Bool := match o with
  | some v => if x.op = 1 then yes (v ∈ x.values) else if x.op = 2 then !yes (v ∈ x.values) else if x.op = 3 then true else false
  | none => if x.op = 1 then false else if x.op = 2 then true else if x.op = 3 then false else true
noncomputable def metF (l : List Label) (x : Need) : Bool := yes (NeedP x) && metO (atF l x.key) x
theorem met_no {l : List Label} {x : Need} (h : ¬ NeedP x) : metF l x = false := by unfold metF; rw [yes_f h]; rfl
theorem met_yes {l : List Label} {x : Need} (h : NeedP x) : metF l x = metO (atF l x.key) x := by unfold metF; rw [yes_t h]; rfl
/-- Values compared. -/
def lessV : List ByteArray → List ByteArray → Bool
  | [], [] => false
  | [], _ :: _ => true
  | _ :: _, [] => false
  | a :: x, b :: y => if a = b then lessV x y else lessB a b
theorem lessV_at : ∀ {a b : List ByteArray} {k : Nat} (h1 : k < a.length) (h2 : k < b.length), (∀ j (hj : j < k), (a[j]'(by omega)) = (b[j]'(by omega))) → a[k] ≠ b[k] → lessV a b = lessB a[k] b[k]
  | [], _, _, h, _, _, _ => by simp at h
  | _ :: _, [], _, _, h, _, _ => by simp at h
  | x :: a, y :: b, 0, _, _, _, hne => by
    rw [lessV, if_neg (by simpa using hne)]; rfl
  | x :: a, y :: b, k + 1, h1, h2, he, hne => by
    have h0 : x = y := he 0 (by omega)
    rw [lessV, if_pos h0]
    exact lessV_at (k := k) (by simpa using h1) (by simpa using h2) (fun j hj => by have := he (j + 1) (by omega); simpa using this) (by simpa using hne)
theorem lessV_end : ∀ {a b : List ByteArray}, (∀ j (h1 : j < a.length) (h2 : j < b.length), a[j] = b[j]) → lessV a b = decide (a.length < b.length)
  | [], [], _ => rfl
  | [], _ :: _, _ => by simp [lessV]
  | _ :: _, [], _ => by simp [lessV]
  | x :: a, y :: b, h => by
    have h0 : x = y := h 0 (by simp) (by simp)
    rw [lessV, if_pos h0, lessV_end (a := a) (b := b) (fun j h1 h2 => by have := h (j + 1) (by simpa using h1) (by simpa using h2); simpa using this)]
    simp
def lessN (a b : Need) : Bool := if a.key = b.key then (if a.op = b.op then lessV a.values b.values else decide (a.op < b.op)) else lessB a.key b.key
theorem lessB_irr (a : ByteArray) : lessB a a = false := less_irr _
theorem lessV_irr : ∀ a : List ByteArray, lessV a a = false
  | [] => rfl
  | a :: x => by rw [lessV, if_pos rfl]; exact lessV_irr x
theorem lessV_total : ∀ a b : List ByteArray, lessV a b = false → lessV b a = false → a = b
  | [], [], _, _ => rfl
  | [], _ :: _, h, _ => by simp [lessV] at h
  | _ :: _, [], _, h => by simp [lessV] at h
  | a :: x, b :: y, h1, h2 => by
    by_cases e : a = b
    · subst e
      rw [lessV, if_pos rfl] at h1 h2
      rw [lessV_total x y h1 h2]
    · rw [lessV, if_neg e] at h1
      rw [lessV, if_neg (fun h => e h.symm)] at h2
      exact absurd (key_same h1 h2) e
theorem lessN_irr (a : Need) : lessN a a = false := by unfold lessN; rw [if_pos rfl, if_pos rfl]; exact lessV_irr _
theorem lessN_total (a b : Need) (h1 : lessN a b = false) (h2 : lessN b a = false) : a = b := by
  unfold lessN at h1 h2
  by_cases ek : a.key = b.key
  · rw [if_pos ek] at h1
    rw [if_pos ek.symm] at h2
    by_cases eo : a.op = b.op
    · rw [if_pos eo] at h1
      rw [if_pos eo.symm] at h2
      have ev := lessV_total _ _ h1 h2
      cases a; cases b
      simp only at ek eo ev
      rw [ek, eo, ev]
    · rw [if_neg eo] at h1
      rw [if_neg (fun h => eo h.symm)] at h2
      simp at h1 h2
      omega
  · rw [if_neg ek] at h1
    rw [if_neg (fun h => ek h.symm)] at h2
    exact absurd (key_same h1 h2) ek
/-- A list of requirements, right as far as k. -/
def GoodN (l : List Need) (k : Nat) : Prop := ∀ i (h : i < l.length), i < k → NeedP l[i] ∧ ∀ m (hm : m + 1 = i), lessN (l[m]'(by omega)) l[i] = true
theorem goodN_next {l : List Need} {k : Nat} (h : GoodN l k) (hk : k < l.length) (h2 : NeedP l[k]) (h3 : ∀ m (hm : m + 1 = k), lessN (l[m]'(by omega)) l[k] = true) : GoodN l (k + 1) := fun i hi hik => by
  by_cases e : i = k
  · subst e; exact ⟨h2, h3⟩
  · exact h i hi (by omega)
def SelP (l : List Need) : Prop := l.length ≤ 4 ∧ GoodN l l.length
noncomputable def selF (l : List Need) (labs : List Label) : Bool := l.all (metF labs)
theorem sel_no {l : List Need} {labs : List Label} {k : Nat} (h : k < l.length) (h2 : metF labs l[k] = false) : selF l labs = false := by
  unfold selF
  cases e : l.all (metF labs) with
  | false => rfl
  | true =>
    have := List.all_eq_true.1 e l[k] (List.getElem_mem h)
    rw [h2] at this; cases this
theorem sel_yes {l : List Need} {labs : List Label} (h : ∀ k (hk : k < l.length), metF labs l[k] = true) : selF l labs = true := by
  unfold selF
  rw [List.all_eq_true]
  intro x hx
  obtain ⟨k, hk, rfl⟩ := List.getElem_of_mem hx
  exact h k hk
/-- Two lists the same, as far as k. -/
def SameTo (a b : List Need) (k : Nat) : Prop := ∀ i (h1 : i < a.length) (h2 : i < b.length), i < k → a[i] = b[i]
def SameNP (a b : List Need) : Prop := a.length = b.length ∧ SameTo a b a.length
theorem sameNP_iff {a b : List Need} : SameNP a b ↔ a = b := by
  constructor
  · rintro ⟨h1, h2⟩
    exact List.ext_getElem h1 fun i i1 i2 => h2 i i1 i2 i1
  · rintro rfl
    exact ⟨rfl, fun i _ _ _ => rfl⟩
/-- What NeedLine gives. -/
def opB (op : Int) : List UInt8 := if op = 1 then [105, 110] else if op = 2 then [110, 111, 116, 105, 110] else if op = 3 then [104, 97, 115] else [104, 97, 115, 110, 111, 116]
def valsB : List ByteArray → List UInt8
  | [] => []
  | [x] => x.data.toList
  | x :: y :: r => x.data.toList ++ 44 :: valsB (y :: r)
theorem valsB_snoc : ∀ (l : List ByteArray) (x : ByteArray), valsB (l ++ [x]) = if l = [] then x.data.toList else valsB l ++ 44 :: x.data.toList
  | [], x => rfl
  | [y], x => by simp [valsB]
  | y :: z :: r, x => by
    have ih := valsB_snoc (z :: r) x
    rw [if_neg (by simp)] at ih ⊢
    show y.data.toList ++ 44 :: valsB ((z :: r) ++ [x]) = _
    rw [ih]
    simp [valsB]
open Classical in
noncomputable def lineN (x : Need) : ByteArray := if NeedP x then ⟨(x.key.data.toList ++ 32 :: opB x.op ++ (if x.values = [] then [] else 32 :: valsB x.values)).toArray⟩ else ⟨#[]⟩
theorem lineN_no {x : Need} (h : ¬ NeedP x) : lineN x = ⟨#[]⟩ := by unfold lineN; rw [if_neg h]
theorem lineN_yes {x : Need} (h : NeedP x) : lineN x = ⟨(x.key.data.toList ++ 32 :: opB x.op ++ (if x.values = [] then [] else 32 :: valsB x.values)).toArray⟩ := by unfold lineN; rw [if_pos h]
/-- Sizes. -/
theorem wt_key (x : Need) : x.key.size ≤ x.wt := by unfold Need.wt; omega
theorem wt_vals (x : Need) : x.values.length ≤ x.wt := by unfold Need.wt; omega
theorem wt_val {x : Need} {k : Nat} (h : k < x.values.length) : x.values[k].size ≤ x.wt := by
  have := wsum_mem Str.wt h
  unfold Str.wt at this
  unfold Need.wt
  have e : wsum Str.wt x.values = wsum (fun s : ByteArray => s.size) x.values := rfl
  omega
end Go.Proofs.YtcfbkfmkjggcdaaGreatDoor.need
namespace Go.Proofs.YtcfbkfmkjggcdaaGreatDoor.need
open Go Go.RowKit dedup
set_option linter.unusedVariables false

theorem sum_ins {α : Type} (lt : α → α → Bool) (f : α → Nat) (x : α) : ∀ S : List α, wsum f (insD lt x S) ≤ f x + wsum f S
  | [] => by simp [insD, wsum]
  | y :: r => by
    have ih := sum_ins lt f x r
    rw [insD]
    split
    · simp only [wsum, List.map_cons, List.sum_cons] at ih ⊢; omega
    split
    · simp only [wsum, List.map_cons, List.sum_cons]; omega
    · simp only [wsum, List.map_cons, List.sum_cons]; omega
theorem sum_dsort {α : Type} (lt : α → α → Bool) (f : α → Nat) (l : List α) : wsum f (dsort lt l) ≤ wsum f l := by
  suffices h : ∀ (l acc : List α), wsum f (l.foldl (fun acc x => insD lt x acc) acc) ≤ wsum f acc + wsum f l by simpa [dsort, wsum] using h l []
  intro l
  induction l with
  | nil => intro acc; simp [wsum]
  | cons x l ih =>
    intro acc
    have h1 := ih (insD lt x acc)
    have h2 := sum_ins lt f x acc
    simp only [List.foldl_cons]
    have e : wsum f (x :: l) = f x + wsum f l := by simp [wsum]
    omega
end Go.Proofs.YtcfbkfmkjggcdaaGreatDoor.need
namespace Go.Proofs.YtcfbkfmkjggcdaaGreatDoor.need
open Go Go.RowKit ty lab dedup
set_option linter.unusedVariables false

theorem lessB_tr (a b c : ByteArray) (h1 : lessB a b = true) (h2 : lessB b c = true) : lessB a c = true := less_trans _ _ _ h1 h2
theorem ordB : Ord lessB := ⟨lessB_irr, fun _ _ h1 h2 => key_same h1 h2, lessB_tr⟩
theorem lessB_ne {a b : ByteArray} (h : lessB a b = true) : a ≠ b := fun e => by rw [e, lessB_irr] at h; cases h
theorem lessV_tr : ∀ a b c : List ByteArray, lessV a b = true → lessV b c = true → lessV a c = true
  | [], [], _, h, _ => by simp [lessV] at h
  | _ :: _, [], _, h, _ => by simp [lessV] at h
  | _, _ :: _, [], _, h => by simp [lessV] at h
  | [], _ :: _, _ :: _, _, _ => rfl
  | a :: x, b :: y, c :: z, h1, h2 => by
    rw [lessV] at h1 h2 ⊢
    by_cases e1 : a = b
    · subst e1
      rw [if_pos rfl] at h1
      by_cases e2 : a = c
      · subst e2
        rw [if_pos rfl] at h2 ⊢
        exact lessV_tr x y z h1 h2
      · rw [if_neg e2] at h2 ⊢
        exact h2
    · rw [if_neg e1] at h1
      by_cases e2 : b = c
      · subst e2
        rw [if_neg e1]
        exact h1
      · rw [if_neg e2] at h2
        have h3 := lessB_tr _ _ _ h1 h2
        rw [if_neg (lessB_ne h3)]
        exact h3
theorem lessN_tr (a b c : Need) (h1 : lessN a b = true) (h2 : lessN b c = true) : lessN a c = true := by
  unfold lessN at h1 h2 ⊢
  by_cases k1 : a.key = b.key
  · rw [if_pos k1] at h1
    by_cases k2 : b.key = c.key
    · rw [if_pos k2] at h2
      rw [if_pos (k1.trans k2)]
      by_cases o1 : a.op = b.op
      · rw [if_pos o1] at h1
        by_cases o2 : b.op = c.op
        · rw [if_pos o2] at h2
          rw [if_pos (o1.trans o2)]
          exact lessV_tr _ _ _ h1 h2
        · rw [if_neg o2] at h2
          rw [if_neg (by rw [o1]; exact o2), o1]
          exact h2
      · rw [if_neg o1] at h1
        by_cases o2 : b.op = c.op
        · rw [if_neg (by rw [← o2]; exact o1), ← o2]
          exact h1
        · rw [if_neg o2] at h2
          simp only [decide_eq_true_eq] at h1 h2
          rw [if_neg (by omega)]
          simp only [decide_eq_true_eq]
          omega
    · rw [if_neg k2] at h2
      rw [if_neg (by rw [k1]; exact k2), k1]
      exact h2
  · rw [if_neg k1] at h1
    by_cases k2 : b.key = c.key
    · rw [if_neg (by rw [← k2]; exact k1), ← k2]
      exact h1
    · rw [if_neg k2] at h2
      have h3 := lessB_tr _ _ _ h1 h2
      rw [if_neg (lessB_ne h3)]
      exact h3
theorem ordN : Ord lessN := ⟨lessN_irr, lessN_total, lessN_tr⟩
def normN (x : Need) : Need := ⟨x.key, x.op, dsort lessB x.values⟩
def outN (l : List Need) : List Need := dsort lessN (l.map normN)
theorem outN_snoc (l : List Need) (x : Need) : outN (l ++ [x]) = insD lessN (normN x) (outN l) := by
  unfold outN
  rw [List.map_append]
  exact dsort_snoc _ _ _
theorem outN_length (l : List Need) : (outN l).length ≤ l.length := by
  have := dsort_length lessN (l.map normN)
  rwa [List.length_map] at this
def FewN (l : List Need) (k : Nat) : Prop := ∀ i (h : i < l.length), i < k → l[i].values.length ≤ 40
open Classical in
noncomputable def sortN (l : List Need) : List Need × Bool := if l.length ≤ 40 ∧ FewN l l.length ∧ SelP (outN l) then (outN l, true) else (l, false)
theorem sortN_yes {l : List Need} (h : l.length ≤ 40 ∧ FewN l l.length ∧ SelP (outN l)) : sortN l = (outN l, true) := by unfold sortN; rw [if_pos h]
theorem sortN_no {l : List Need} (h : ¬ (l.length ≤ 40 ∧ FewN l l.length ∧ SelP (outN l))) : sortN l = (l, false) := by unfold sortN; rw [if_neg h]
theorem sortN_len {l : List Need} (h : l.length ≤ 1048576) : (sortN l).1.length ≤ 1048576 := by
  by_cases h2 : l.length ≤ 40 ∧ FewN l l.length ∧ SelP (outN l)
  · rw [sortN_yes h2]
    exact Nat.le_trans (outN_length l) h
  · rw [sortN_no h2]
    exact h
theorem cost_norm (x : Need) : (normN x).cost ≤ x.cost := by
  have := sum_dsort lessB Str.cost x.values
  unfold Need.cost normN
  simp only
  omega
theorem cost_out (l : List Need) : wsum Need.cost (outN l) ≤ wsum Need.cost l := by
  refine Nat.le_trans (sum_dsort lessN Need.cost (l.map normN)) ?_
  induction l with
  | nil => simp [wsum]
  | cons x l ih =>
    have := cost_norm x
    simp only [wsum, List.map_cons, List.sum_cons] at ih ⊢
    omega
theorem cost_str (l : List ByteArray) : wsum Str.cost l ≤ l.length := by
  induction l with
  | nil => simp [wsum]
  | cons x l ih =>
    have : Str.cost x ≤ 1 := by unfold Str.cost; omega
    simp only [wsum, List.map_cons, List.sum_cons, List.length_cons] at ih ⊢
    omega
theorem cost_wt (l : List Need) : wsum Need.cost l ≤ 2 * l.length + wsum Need.wt l := by
  induction l with
  | nil => simp [wsum]
  | cons x l ih =>
    have h1 := cost_str x.values
    have h2 := wt_vals x
    have h3 : x.cost ≤ 2 + x.wt := by unfold Need.cost; omega
    simp only [wsum, List.map_cons, List.sum_cons, List.length_cons] at ih ⊢
    omega
theorem sortN_cost {l : List Need} (h : l.length + wsum Need.wt l ≤ 1048576) : wsum Need.cost (sortN l).1 ≤ 2097152 := by
  have h1 := cost_wt l
  by_cases h2 : l.length ≤ 40 ∧ FewN l l.length ∧ SelP (outN l)
  · rw [sortN_yes h2]
    have := cost_out l
    show wsum Need.cost (outN l) ≤ 2097152
    omega
  · rw [sortN_no h2]
    show wsum Need.cost l ≤ 2097152
    omega
end Go.Proofs.YtcfbkfmkjggcdaaGreatDoor.need
namespace Go.Proofs.YtcfbkfmkjggcdaaGreatDoor.taint
open Go Go.RowKit ty lab dedup
set_option linter.unusedVariables false

/-! Lists that are right as far as k, over any check and order. -/
section
variable {α : Type} {P : α → Prop} {lt : α → α → Bool}
def GoodL (P : α → Prop) (lt : α → α → Bool) (l : List α) (k : Nat) : Prop := ∀ i (h : i < l.length), i < k → P l[i] ∧ ∀ m (hm : m + 1 = i), lt (l[m]'(by omega)) l[i] = true
theorem goodL_next {l : List α} {k : Nat} (h : GoodL P lt l k) (hk : k < l.length) (h2 : P l[k]) (h3 : ∀ m (hm : m + 1 = k), lt (l[m]'(by omega)) l[k] = true) : GoodL P lt l (k + 1) := fun i hi hik => by
  by_cases e : i = k
  · subst e; exact ⟨h2, h3⟩
  · exact h i hi (by omega)
theorem goodL_zero (l : List α) : GoodL P lt l 0 := fun i _ h => absurd h (Nat.not_lt_zero _)
theorem goodL_asc (o : Ord lt) {l : List α} (h : GoodL P lt l l.length) : Asc lt l := by
  unfold Asc
  rw [List.pairwise_iff_getElem]
  intro i j hi hj hij
  induction j with
  | zero => omega
  | succ j ih =>
    have hs := (h (j + 1) hj hj).2 j rfl
    by_cases e : i = j
    · subst e; exact hs
    · exact o.tr _ _ _ (ih (by omega) (by omega)) hs
theorem goodL_all {l : List α} (h : GoodL P lt l l.length) : ∀ x ∈ l, P x := fun x hx => by
  obtain ⟨i, hi, rfl⟩ := List.getElem_of_mem hx
  exact (h i hi hi).1
open Classical in
/-- Put in order, each once; or the list as it was. -/
noncomputable def sortL (P : List α → Prop) (lt : α → α → Bool) (l : List α) : List α × Bool := if l.length ≤ 40 ∧ P (dsort lt l) then (dsort lt l, true) else (l, false)
theorem sortL_yes {P : List α → Prop} {l : List α} (h : l.length ≤ 40 ∧ P (dsort lt l)) : sortL P lt l = (dsort lt l, true) := by unfold sortL; rw [if_pos h]
theorem sortL_no {P : List α → Prop} {l : List α} (h : ¬ (l.length ≤ 40 ∧ P (dsort lt l))) : sortL P lt l = (l, false) := by unfold sortL; rw [if_neg h]
theorem sortL_cases (P : List α → Prop) (l : List α) : sortL P lt l = (l, false) ∨ (sortL P lt l = (dsort lt l, true) ∧ P (dsort lt l)) := by
  by_cases h : l.length ≤ 40 ∧ P (dsort lt l)
  · exact .inr ⟨sortL_yes h, h.2⟩
  · exact .inl (sortL_no h)
theorem sortL_len {P : List α → Prop} {l : List α} {n : Nat} (h : l.length ≤ n) : (sortL P lt l).1.length ≤ n := by
  rcases sortL_cases (lt := lt) P l with e | ⟨e, _⟩ <;> rw [e]
  · exact h
  · exact Nat.le_trans (dsort_length _ _) h
theorem sortL_sub {P : List α → Prop} {l : List α} : ∀ x ∈ (sortL P lt l).1, x ∈ l := fun x hx => by
  rcases sortL_cases (lt := lt) P l with e | ⟨e, _⟩ <;> rw [e] at hx
  · exact hx
  · exact dsort_sub _ _ x hx
end

/-! Taints. -/
structure TaintP (x : Taint) : Prop where
  key : KeyP x.key
  value : ValP x.value
  lo : 1 ≤ x.effect
  hi : x.effect ≤ 2
def lessT (a b : Taint) : Bool := if a.key = b.key then (if a.value = b.value then decide (a.effect < b.effect) else lessB a.value b.value) else lessB a.key b.key
theorem lessB_irr' (a : ByteArray) : lessB a a = false := less_irr _
theorem lessB_tr' (a b c : ByteArray) (h1 : lessB a b = true) (h2 : lessB b c = true) : lessB a c = true := less_trans _ _ _ h1 h2
theorem lessB_ne' {a b : ByteArray} (h : lessB a b = true) : a ≠ b := fun e => by rw [e, lessB_irr'] at h; cases h
theorem lessB_tot' (a b : ByteArray) (h1 : lessB a b = false) (h2 : lessB b a = false) : a = b := key_same h1 h2
/-- One key ahead of another order. -/
def lexB {β : Type} (f : β → ByteArray) (r : β → β → Bool) (a b : β) : Bool := if f a = f b then r a b else lessB (f a) (f b)
theorem lexB_ord {β : Type} (f : β → ByteArray) (r : β → β → Bool) (irr : ∀ a, r a a = false) (tot : ∀ a b, f a = f b → r a b = false → r b a = false → a = b) (tr : ∀ a b c, r a b = true → r b c = true → r a c = true) : Ord (lexB f r) := by
  refine ⟨fun a => ?_, fun a b h1 h2 => ?_, fun a b c h1 h2 => ?_⟩
  · unfold lexB; rw [if_pos rfl]; exact irr a
  · unfold lexB at h1 h2
    by_cases e : f a = f b
    · rw [if_pos e] at h1
      rw [if_pos e.symm] at h2
      exact tot a b e h1 h2
    · rw [if_neg e] at h1
      rw [if_neg (fun h => e h.symm)] at h2
      exact absurd (lessB_tot' _ _ h1 h2) e
  · unfold lexB at h1 h2 ⊢
    by_cases e1 : f a = f b
    · rw [if_pos e1] at h1
      by_cases e2 : f b = f c
      · rw [if_pos e2] at h2
        rw [if_pos (e1.trans e2)]
        exact tr _ _ _ h1 h2
      · rw [if_neg e2] at h2
        rw [if_neg (by rw [e1]; exact e2), e1]
        exact h2
    · rw [if_neg e1] at h1
      by_cases e2 : f b = f c
      · rw [if_neg (by rw [← e2]; exact e1), ← e2]
        exact h1
      · rw [if_neg e2] at h2
        have h3 := lessB_tr' _ _ _ h1 h2
        rw [if_neg (lessB_ne' h3)]
        exact h3
theorem lessT_lex (a b : Taint) : lessT a b = lexB Taint.key (lexB Taint.value fun a b => decide (a.effect < b.effect)) a b := rfl
theorem ordT : Ord lessT := by
  have e : lessT = lexB Taint.key (lexB Taint.value fun a b => decide (a.effect < b.effect)) := rfl
  rw [e]
  refine lexB_ord _ _ (fun a => ?_) (fun a b hk h1 h2 => ?_) (fun a b c h1 h2 => ?_)
  · unfold lexB; simp
  · unfold lexB at h1 h2
    by_cases ev : a.value = b.value
    · rw [if_pos ev] at h1
      rw [if_pos ev.symm] at h2
      simp only [decide_eq_false_iff_not] at h1 h2
      cases a; cases b
      simp only at *
      obtain rfl := hk
      obtain rfl := ev
      congr
      omega
    · rw [if_neg ev] at h1
      rw [if_neg (fun h => ev h.symm)] at h2
      exact absurd (lessB_tot' _ _ h1 h2) ev
  · unfold lexB at h1 h2 ⊢
    by_cases e1 : a.value = b.value
    · rw [if_pos e1] at h1
      by_cases e2 : b.value = c.value
      · rw [if_pos e2] at h2
        rw [if_pos (e1.trans e2)]
        simp only [decide_eq_true_eq] at h1 h2 ⊢
        omega
      · rw [if_neg e2] at h2
        rw [if_neg (by rw [e1]; exact e2), e1]
        exact h2
    · rw [if_neg e1] at h1
      by_cases e2 : b.value = c.value
      · rw [if_neg (by rw [← e2]; exact e1), ← e2]
        exact h1
      · rw [if_neg e2] at h2
        have h3 := lessB_tr' _ _ _ h1 h2
        rw [if_neg (lessB_ne' h3)]
        exact h3
def TaintsP (l : List Taint) : Prop := l.length ≤ 4 ∧ GoodL TaintP lessT l l.length

/-! Tolerations. -/
structure TolP (x : Tolerance) : Prop where
  lo : 0 ≤ x.effect
  hi : x.effect ≤ 2
  free : x.equal = false → x.value.size = 0 ∧ (x.key.size = 0 ∨ KeyP x.key)
  eq : x.equal = true → KeyP x.key ∧ ValP x.value
/-- Behind the key and Equal. -/
def befV (a b : Tolerance) : Bool := if a.value = b.value then decide (a.effect < b.effect) else lessB a.value b.value
def befE (a b : Tolerance) : Bool := if a.equal = b.equal then befV a b else b.equal
def befT (a b : Tolerance) : Bool := if a.key = b.key then befE a b else lessB a.key b.key
theorem befV_irr (a : Tolerance) : befV a a = false := by unfold befV; simp
theorem befV_tot {a b : Tolerance} (hk : a.key = b.key) (he : a.equal = b.equal) (h1 : befV a b = false) (h2 : befV b a = false) : a = b := by
  unfold befV at h1 h2
  by_cases ev : a.value = b.value
  · rw [if_pos ev] at h1
    rw [if_pos ev.symm] at h2
    simp only [decide_eq_false_iff_not] at h1 h2
    cases a; cases b
    simp only at *
    obtain rfl := hk
    obtain rfl := he
    obtain rfl := ev
    congr
    omega
  · rw [if_neg ev] at h1
    rw [if_neg (fun h => ev h.symm)] at h2
    exact absurd (lessB_tot' _ _ h1 h2) ev
theorem befV_tr {a b c : Tolerance} (h1 : befV a b = true) (h2 : befV b c = true) : befV a c = true := by
  unfold befV at h1 h2 ⊢
  by_cases e1 : a.value = b.value
  · rw [if_pos e1] at h1
    by_cases e2 : b.value = c.value
    · rw [if_pos e2] at h2
      rw [if_pos (e1.trans e2)]
      simp only [decide_eq_true_eq] at h1 h2 ⊢
      omega
    · rw [if_neg e2] at h2
      rw [if_neg (by rw [e1]; exact e2), e1]
      exact h2
  · rw [if_neg e1] at h1
    by_cases e2 : b.value = c.value
    · rw [if_neg (by rw [← e2]; exact e1), ← e2]
      exact h1
    · rw [if_neg e2] at h2
      have h3 := lessB_tr' _ _ _ h1 h2
      rw [if_neg (lessB_ne' h3)]
      exact h3
theorem ordO : Ord befT := by
  have e : befT = lexB Tolerance.key befE := rfl
  rw [e]
  refine lexB_ord _ _ (fun a => ?_) (fun a b hk h1 h2 => ?_) (fun a b c h1 h2 => ?_)
  · unfold befE; rw [if_pos rfl]; exact befV_irr a
  · unfold befE at h1 h2
    by_cases ee : a.equal = b.equal
    · rw [if_pos ee] at h1
      rw [if_pos ee.symm] at h2
      exact befV_tot hk ee h1 h2
    · rw [if_neg ee] at h1
      rw [if_neg (fun h => ee h.symm)] at h2
      exact absurd (by rw [h1, h2]) ee
  · unfold befE at h1 h2 ⊢
    by_cases e1 : a.equal = b.equal
    · rw [if_pos e1] at h1
      by_cases e2 : b.equal = c.equal
      · rw [if_pos e2] at h2
        rw [if_pos (e1.trans e2)]
        exact befV_tr h1 h2
      · rw [if_neg e2] at h2
        rw [if_neg (by rw [e1]; exact e2)]
        exact h2
    · rw [if_neg e1] at h1
      by_cases e2 : b.equal = c.equal
      · rw [if_neg (by rw [← e2]; exact e1), ← e2]
        exact h1
      · rw [if_neg e2] at h2
        exact absurd (h1.trans h2.symm) e2
def TolsP (l : List Tolerance) : Prop := l.length ≤ 4 ∧ GoodL TolP befT l l.length

/-! Who tolerates what. -/
open Classical in
noncomputable def tolF (t : Tolerance) (x : Taint) : Bool := decide (TolP t ∧ TaintP x ∧ (t.key.size = 0 ∨ t.key = x.key) ∧ (t.equal = false ∨ t.value = x.value) ∧ (t.effect = 0 ∨ t.effect = x.effect))
/-- Is the taint with that effect tolerated by none? -/
noncomputable def keptBy (l : List Tolerance) (e : Int) (x : Taint) : Bool := decide (x.effect = e) && !l.any (fun t => tolF t x)
noncomputable def unF (l : List Tolerance) (taints : List Taint) (e : Int) : Nat := (taints.filter (keptBy l e)).length
theorem unF_snoc (l : List Tolerance) (taints : List Taint) (x : Taint) (e : Int) : unF l (taints ++ [x]) e = unF l taints e + (if keptBy l e x = true then 1 else 0) := by
  unfold unF
  rw [List.filter_append, List.length_append]
  by_cases h : keptBy l e x = true
  · rw [if_pos h]; simp [h]
  · rw [if_neg h]; simp [h]
theorem unF_le (l : List Tolerance) (taints : List Taint) (e : Int) : unF l taints e ≤ taints.length := List.length_filter_le _ _
theorem filter_le {α : Type} {p q : α → Bool} (h : ∀ x, p x = true → q x = true) : ∀ l : List α, (l.filter p).length ≤ (l.filter q).length
  | [] => Nat.le_refl _
  | x :: l => by
    have ih := filter_le h l
    by_cases hp : p x = true
    · rw [List.filter_cons_of_pos hp, List.filter_cons_of_pos (h x hp)]
      simp only [List.length_cons]; omega
    · rw [List.filter_cons_of_neg hp]
      by_cases hq : q x = true
      · rw [List.filter_cons_of_pos hq]
        simp only [List.length_cons]; omega
      · rw [List.filter_cons_of_neg hq]; exact ih
/-- One toleration more keeps no more away. -/
theorem unF_more (l : List Tolerance) (t : Tolerance) (taints : List Taint) (e : Int) : unF (l ++ [t]) taints e ≤ unF l taints e :=
  filter_le (fun x h => by
    unfold keptBy at h ⊢
    simp only [Bool.and_eq_true, Bool.not_eq_true', List.any_append, Bool.or_eq_false_iff] at h ⊢
    exact ⟨h.1, h.2.1⟩) taints
/-- The toleration of all. -/
def allT : Tolerance := ⟨⟨#[]⟩, false, ⟨#[]⟩, 0⟩
theorem all_ok : TolP allT := ⟨by decide, by decide, fun _ => ⟨rfl, .inl rfl⟩, fun h => by cases h⟩
open Classical in
theorem tol_all {x : Taint} (h : TaintP x) : tolF allT x = true := by
  unfold tolF
  exact decide_eq_true ⟨all_ok, h, .inl rfl, .inl rfl, .inl rfl⟩
open Classical in
/-- So it leaves at most what is no right taint. -/
theorem unF_all (taints : List Taint) (e : Int) : unF [allT] taints e ≤ (taints.filter fun x => !decide (TaintP x)).length :=
  filter_le (fun x h => by
    unfold keptBy at h
    simp only [Bool.and_eq_true, Bool.not_eq_true', List.any_cons, List.any_nil, Bool.or_false] at h
    by_cases hx : TaintP x
    · rw [tol_all hx] at h; cases h.2
    · simp [hx]) taints
end Go.Proofs.YtcfbkfmkjggcdaaGreatDoor.taint
namespace Go.Proofs.YtcfbkfmkjggcdaaGreatDoor.pod
open Go Go.RowKit ty lab need taint
set_option linter.unusedVariables false

structure PodP (x : Pod) : Prop where
  name : NameP x.name
  labels : LabelsP x.labels
  cpu : 0 ≤ x.cpu
  mem : 0 ≤ x.mem
  lo : 0 ≤ x.rank
  hi : x.rank ≤ 1000
  needs : SelP x.needs
  tolerances : TolsP x.tolerances
structure HostP (x : Host) : Prop where
  name : NameP x.name
  labels : LabelsP x.labels
  cpu : 0 ≤ x.cpu
  mem : 0 ≤ x.mem
  lo : 1 ≤ x.slots
  hi : x.slots ≤ 20
  taints : TaintsP x.taints
/-- With its lists put in order, right or not. -/
noncomputable def podO (x : Pod) : Pod := ⟨x.name, (sortF x.labels).1, x.cpu, x.mem, x.rank, (sortN x.needs).1, (sortL TolsP befT x.tolerances).1⟩
noncomputable def hostO (x : Host) : Host := ⟨x.name, (sortF x.labels).1, x.cpu, x.mem, x.slots, (sortL TaintsP lessT x.taints).1⟩
open Classical in
noncomputable def podN (x : Pod) : Pod × Bool := if (sortF x.labels).2 = true ∧ (sortN x.needs).2 = true ∧ (sortL TolsP befT x.tolerances).2 = true ∧ PodP (podO x) then (podO x, true) else (x, false)
open Classical in
noncomputable def hostN (x : Host) : Host × Bool := if (sortF x.labels).2 = true ∧ (sortL TaintsP lessT x.taints).2 = true ∧ HostP (hostO x) then (hostO x, true) else (x, false)
theorem podN_yes {x : Pod} (h1 : (sortF x.labels).2 = true) (h2 : (sortN x.needs).2 = true) (h3 : (sortL TolsP befT x.tolerances).2 = true) (h4 : PodP (podO x)) : podN x = (podO x, true) := by unfold podN; rw [if_pos ⟨h1, h2, h3, h4⟩]
theorem podN_no {x : Pod} (h : ¬ ((sortF x.labels).2 = true ∧ (sortN x.needs).2 = true ∧ (sortL TolsP befT x.tolerances).2 = true ∧ PodP (podO x))) : podN x = (x, false) := by unfold podN; rw [if_neg h]
theorem hostN_yes {x : Host} (h1 : (sortF x.labels).2 = true) (h2 : (sortL TaintsP lessT x.taints).2 = true) (h3 : HostP (hostO x)) : hostN x = (hostO x, true) := by unfold hostN; rw [if_pos ⟨h1, h2, h3⟩]
theorem hostN_no {x : Host} (h : ¬ ((sortF x.labels).2 = true ∧ (sortL TaintsP lessT x.taints).2 = true ∧ HostP (hostO x))) : hostN x = (x, false) := by unfold hostN; rw [if_neg h]
end Go.Proofs.YtcfbkfmkjggcdaaGreatDoor.pod
namespace Go.Proofs.YtcfbkfmkjggcdaaGreatDoor.lab
open Go.ChangeShapes Go.WideShapes Go.ChangeAt Go.RowKit ty
set_option linter.unusedVariables false

set_option maxRecDepth 100000 in
set_option maxHeartbeats 8000000 in
theorem spec_labels (l : List Label) (f : Nat) (v : Value) (w : World) (h : Lies w f v (.sl 2 l.length (l.flatMap Label.row))) (hz : Small l) :
    Calls Tryz.prog 52 #[v] w fun e w' => e = .returned (.bool (yes (LabelsP l))) ∧ ∃ n, w' = w.drewN n := by
  obtain ⟨A, c, rfl, hc1, hc2, f', rfl, hk⟩ := els_of Label.row_length h
  unfold maxLen at hc2
  obtain ⟨R, hR⟩ : ∃ R, yes (LabelsP l) = R := ⟨_, rfl⟩
  rw [hR]
  have Hno : Hid (¬ LabelsP l → R = false) := fun h => by rw [← hR]; exact yes_f h
  have Hyes : Hid (LabelsP l → R = true) := fun h => by rw [← hR]; exact yes_t h
  have Hk := Lib.hid hk
  have Hz := Lib.hid hz
  clear h hk hR hz
  by_cases h6 : 6 < l.length
  · have Hf := Lib.hid (Hno.out fun h2 => by have := h2.1; omega)
    go_enter Tryz.func52, Tryz.ntmps52
    go_wp2_with fail
    go_ret
    exact ⟨by rw [Hf.out]; rfl, 0, rfl⟩
  have Hmk := Lib.hid (fun h3 => Hyes.out ⟨by omega, h3⟩)
  go_enter Tryz.func52, Tryz.ntmps52
  go_wp2_with fail
  go_loopw [3] (fun i wr => ∃ j : Nat, j ≤ l.length ∧ i = .int .i64 j ∧ Hid (GoodTo l j) ∧ ∃ n, wr = w.drewN n) (fun i _ => l.length - (intOf i).toNat)
  case atStart => exact ⟨0, Nat.zero_le _, rfl, fun i hi hj => by omega, 0, rfl⟩
  case round =>
    obtain ⟨j, hj, rfl, hgood, n0, hwr⟩ := hrel
    have Hw : Hid (∃ n, wr = w.drewN n) := ⟨n0, hwr⟩
    by_cases hlt : j < l.length
    · obtain ⟨g, o, hA, hg, hcc⟩ := (Hk.out) (by omega)
      obtain ⟨us, hus, hc, hls⟩ := hcc j _ (List.getElem?_eq_getElem hlt)
      obtain ⟨rfl, hwf⟩ := Label.opened hls
      have q0 : wr.cell? ⟨g, o + j * 2, none⟩ = some (.string l[j].key) := by rw [hwr]; exact hc 0 _ rfl
      have q1 : wr.cell? ⟨g, o + j * 2 + 1, none⟩ = some (.string l[j].value) := by rw [hwr]; exact hc 1 _ rfl
      have hzj := Hz.out l[j] (List.getElem_mem hlt)
      have HKc := Lib.hid (fun w => spec_key l[j].key w hzj.1)
      have HVc := Lib.hid (fun w => spec_val l[j].value w hzj.2)
      have hji : (0 : Int) ≤ (j : Int) := by omega
      by_cases hK : KeyP l[j].key
      case neg =>
        have Hf := Lib.hid (Hno.out fun h2 => hK (good_at h2.2 hlt).1)
        rw [yes_f hK] at HKc
        subst hA
        clear hwr
        clear hK Hno Hyes Hmk hgood hcc hc hls hus hwf hzj HVc q1
        generalize l[j].key = x at q0 HKc
        go_wp2_with fail
        go_quiet (first | (go_at_call 117; exact Calls.quiet_of (HKc.out _)))
        go_wp2_with fail
        go_ret
        exact ⟨by rw [Hf.out]; rfl, drew_of Hw.out _⟩
      rw [yes_t hK] at HKc
      by_cases hV : ValP l[j].value
      case neg =>
        have Hf := Lib.hid (Hno.out fun h2 => hV (good_at h2.2 hlt).2.1)
        rw [yes_f hV] at HVc
        subst hA
        clear hwr
        clear hK hV Hno Hyes Hmk hgood hcc hc hls hus hwf hzj
        generalize l[j].key = x at q0 HKc
        generalize l[j].value = y at q1 HVc
        go_wp2_with fail
        go_quiet (first | (go_at_call 117; exact Calls.quiet_of (HKc.out _)) | (go_at_call 118; exact Calls.quiet_of (HVc.out _)))
        go_wp2_with fail
        go_ret
        exact ⟨by rw [Hf.out]; rfl, drew_of Hw.out _⟩
      rw [yes_t hV] at HVc
      by_cases hj0 : j = 0
      · have Hg := Lib.hid (good_next hgood.out hlt hK hV (fun m hm => by omega))
        have hn0 : ¬ (0 : Int) < (j : Int) := by omega
        have hn1 : ¬ 0 < j := by omega
        subst hA
        clear hwr
        clear hK hV Hno Hyes hgood hcc hc hls hus hwf hzj hj0
        generalize l[j].key = x at q0 HKc
        generalize l[j].value = y at q1 HVc
        go_wp2_with fail
        go_quiet (first | (go_at_call 117; exact Calls.quiet_of (HKc.out _)) | (go_at_call 118; exact Calls.quiet_of (HVc.out _)))
        go_wp2_with fail
        go_roundw
        case rel => exact ⟨j + 1, by omega, by go_num, Hg.out, drew_of Hw.out _⟩
        case measure => simp [intOf]; omega
      obtain ⟨m, hm⟩ : ∃ m, m + 1 = j := ⟨j - 1, by omega⟩
      have hml : m < l.length := by omega
      obtain ⟨us2, hus2, hc2', hls2⟩ := hcc m _ (List.getElem?_eq_getElem hml)
      obtain ⟨rfl, hwf2⟩ := Label.opened hls2
      have p0 : wr.cell? ⟨g, o + m * 2, none⟩ = some (.string l[m].key) := by rw [hwr]; exact hc2' 0 _ rfl
      have hmi : (j : Int) - 1 = (m : Int) := by omega
      have hjp : (0 : Int) < (j : Int) := by omega
      have hjp1 : 0 < j := by omega
      cases hb : lessB l[m].key l[j].key with
      | true =>
        have Hg := Lib.hid (good_next hgood.out hlt hK hV (fun m' hm' => by obtain rfl : m' = m := by omega
                                                                            exact hb))
        unfold lessB at hb
        subst hA
        clear hwr
        clear hK hV Hno Hyes hgood hcc hc hls hus hwf hzj hj0 hc2' hls2 hus2 hwf2 hm
        generalize l[j].key = x at q0 HKc hb
        generalize l[j].value = y at q1 HVc
        generalize l[m].key = z at p0 hb
        go_wp2_with fail
        go_quiet (first | (go_at_call 117; exact Calls.quiet_of (HKc.out _)) | (go_at_call 118; exact Calls.quiet_of (HVc.out _)))
        go_wp2_with fail
        go_roundw
        case rel => exact ⟨j + 1, by omega, by go_num, Hg.out, drew_of Hw.out _⟩
        case measure => simp [intOf]; omega
      | false =>
        have Hf := Lib.hid (Hno.out fun h2 => by rw [(good_at h2.2 hlt).2.2 m hm] at hb; cases hb)
        unfold lessB at hb
        subst hA
        clear hwr
        clear hK hV Hno Hyes hgood hcc hc hls hus hwf hzj hj0 hc2' hls2 hus2 hwf2 hm Hmk
        generalize l[j].key = x at q0 HKc hb
        generalize l[j].value = y at q1 HVc
        generalize l[m].key = z at p0 hb
        go_wp2_with fail
        go_quiet (first | (go_at_call 117; exact Calls.quiet_of (HKc.out _)) | (go_at_call 118; exact Calls.quiet_of (HVc.out _)))
        go_wp2_with fail
        go_ret
        exact ⟨by rw [Hf.out]; rfl, drew_of Hw.out _⟩
    · obtain rfl : j = l.length := by omega
      have Hf := Lib.hid (Hmk.out hgood.out)
      clear hgood hwr
      go_wp2_with fail
      go_ret
      exact ⟨by rw [Hf.out]; rfl, Hw.out⟩
end Go.Proofs.YtcfbkfmkjggcdaaGreatDoor.lab
namespace Go.Proofs.YtcfbkfmkjggcdaaGreatDoor.need
open Go Go.RowKit
set_option linter.unusedVariables false

/-- Two structs that came in by value, each in a box of its own. -/
def Box2 (e : TypeId) (w : World) (us vs : List Value) (w' : World) : Prop := Box e w us w' ∧ w'.heap[w.heap.size + 1]? = some (.cells vs.toArray e (0, 0))
theorem Box2.new (e : TypeId) (w : World) (us vs : List Value) : Box2 e w us vs ((w.alloc (.cells us.toArray e)).alloc (.cells vs.toArray e)) := by
  refine ⟨(Box.new e w us).below ((Below.refl _ _).alloc (Nat.le_refl _) _), ?_⟩
  have h := heap_alloc_new (w.alloc (.cells us.toArray e)) (.cells vs.toArray e)
  simpa using h
theorem Box2.below {e : TypeId} {w a b : World} {us vs : List Value} (h : Box2 e w us vs a) (k : Below a.heap.size a b) : Box2 e w us vs b := ⟨h.1.below k, heap_kept k (heap_lt h.2) h.2⟩
theorem Box2.cell1 {e : TypeId} {w a : World} {us vs : List Value} (h : Box2 e w us vs a) {j : Nat} {u : Value} (hj : us[j]? = some u) : a.cell? ⟨w.heap.size, j, none⟩ = some u := h.1.cell hj
theorem Box2.cell2 {e : TypeId} {w a : World} {us vs : List Value} (h : Box2 e w us vs a) {j : Nat} {u : Value} (hj : vs[j]? = some u) : a.cell? ⟨w.heap.size + 1, j, none⟩ = some u := by
  rw [cell_of_row a _ j _ _ _ h.2]
  simpa using hj
end Go.Proofs.YtcfbkfmkjggcdaaGreatDoor.need
