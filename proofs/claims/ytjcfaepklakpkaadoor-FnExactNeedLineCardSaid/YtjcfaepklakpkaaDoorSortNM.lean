/- Requirements in order, each once: plain. -/
import Derived.Test.YtjcfaepklakpkaaDoorNeedM
import Derived.Test.YtjcfaepklakpkaaDoorDedupM
import Derived.Test.YtjcfaepklakpkaaDoorRdBack
namespace Go.Proofs.YtjcfaepklakpkaaDoor.need
open Go Go.RowKit ty lab dedup
set_option linter.unusedVariables false

theorem lessB_tr (a b c : ByteArray) (h1 : lessB a b = true) (h2 : lessB b c = true) : lessB a c = true := less_trans _ _ _ h1 h2
theorem ordB : Ord lessB := ⟨lessB_irr, fun _ _ h1 h2 => key_same h1 h2, lessB_tr⟩
theorem lessB_ne {a b : ByteArray} (h : lessB a b = true) : a ≠ b := fun e => by rw [e, lessB_irr] at h; cases h
theorem lessV_tr : ∀ a b c : List ByteArray, lessV a b = true → lessV b c = true → lessV a c = true
  | [], [], _, h, _ => by simp [lessV] at h
  | _ :: _, [], _, h, _ => by simp [lessV] at h
  | _, _ :: _, [], _, h => by simp [lessV] at h
  | [], _ :: _, _ :: _, _, _ => rfl
  | a :: x, b :: y, c :: z, h1, h2 => by
    rw [lessV] at h1 h2 ⊢
    by_cases e1 : a = b
    · subst e1
      rw [if_pos rfl] at h1
      by_cases e2 : a = c
      · subst e2
        rw [if_pos rfl] at h2 ⊢
        exact lessV_tr x y z h1 h2
      · rw [if_neg e2] at h2 ⊢
        exact h2
    · rw [if_neg e1] at h1
      by_cases e2 : b = c
      · subst e2
        rw [if_neg e1]
        exact h1
      · rw [if_neg e2] at h2
        have h3 := lessB_tr _ _ _ h1 h2
        rw [if_neg (lessB_ne h3)]
        exact h3
theorem lessN_tr (a b c : Need) (h1 : lessN a b = true) (h2 : lessN b c = true) : lessN a c = true := by
  unfold lessN at h1 h2 ⊢
  by_cases k1 : a.key = b.key
  · rw [if_pos k1] at h1
    by_cases k2 : b.key = c.key
    · rw [if_pos k2] at h2
      rw [if_pos (k1.trans k2)]
      by_cases o1 : a.op = b.op
      · rw [if_pos o1] at h1
        by_cases o2 : b.op = c.op
        · rw [if_pos o2] at h2
          rw [if_pos (o1.trans o2)]
          exact lessV_tr _ _ _ h1 h2
        · rw [if_neg o2] at h2
          rw [if_neg (by rw [o1]; exact o2), o1]
          exact h2
      · rw [if_neg o1] at h1
        by_cases o2 : b.op = c.op
        · rw [if_neg (by rw [← o2]; exact o1), ← o2]
          exact h1
        · rw [if_neg o2] at h2
          simp only [decide_eq_true_eq] at h1 h2
          rw [if_neg (by omega)]
          simp only [decide_eq_true_eq]
          omega
    · rw [if_neg k2] at h2
      rw [if_neg (by rw [k1]; exact k2), k1]
      exact h2
  · rw [if_neg k1] at h1
    by_cases k2 : b.key = c.key
    · rw [if_neg (by rw [← k2]; exact k1), ← k2]
      exact h1
    · rw [if_neg k2] at h2
      have h3 := lessB_tr _ _ _ h1 h2
      rw [if_neg (lessB_ne h3)]
      exact h3
theorem ordN : Ord lessN := ⟨lessN_irr, lessN_total, lessN_tr⟩
def normN (x : Need) : Need := ⟨x.key, x.op, dsort lessB x.values⟩
def outN (l : List Need) : List Need := dsort lessN (l.map normN)
theorem outN_snoc (l : List Need) (x : Need) : outN (l ++ [x]) = insD lessN (normN x) (outN l) := by
  unfold outN
  rw [List.map_append]
  exact dsort_snoc _ _ _
theorem outN_length (l : List Need) : (outN l).length ≤ l.length := by
  have := dsort_length lessN (l.map normN)
  rwa [List.length_map] at this
def FewN (l : List Need) (k : Nat) : Prop := ∀ i (h : i < l.length), i < k → l[i].values.length ≤ 40
open Classical in
noncomputable def sortN (l : List Need) : List Need × Bool := if l.length ≤ 40 ∧ FewN l l.length ∧ SelP (outN l) then (outN l, true) else (l, false)
theorem sortN_yes {l : List Need} (h : l.length ≤ 40 ∧ FewN l l.length ∧ SelP (outN l)) : sortN l = (outN l, true) := by unfold sortN; rw [if_pos h]
theorem sortN_no {l : List Need} (h : ¬ (l.length ≤ 40 ∧ FewN l l.length ∧ SelP (outN l))) : sortN l = (l, false) := by unfold sortN; rw [if_neg h]
theorem sortN_len {l : List Need} (h : l.length ≤ 1048576) : (sortN l).1.length ≤ 1048576 := by
  by_cases h2 : l.length ≤ 40 ∧ FewN l l.length ∧ SelP (outN l)
  · rw [sortN_yes h2]
    exact Nat.le_trans (outN_length l) h
  · rw [sortN_no h2]
    exact h
theorem sum_ins {α : Type} (lt : α → α → Bool) (f : α → Nat) (x : α) : ∀ S : List α, wsum f (insD lt x S) ≤ f x + wsum f S
  | [] => by simp [insD, wsum]
  | y :: r => by
    have ih := sum_ins lt f x r
    rw [insD]
    split
    · simp only [wsum, List.map_cons, List.sum_cons] at ih ⊢; omega
    split
    · simp only [wsum, List.map_cons, List.sum_cons]; omega
    · simp only [wsum, List.map_cons, List.sum_cons]; omega
theorem sum_dsort {α : Type} (lt : α → α → Bool) (f : α → Nat) (l : List α) : wsum f (dsort lt l) ≤ wsum f l := by
  suffices h : ∀ (l acc : List α), wsum f (l.foldl (fun acc x => insD lt x acc) acc) ≤ wsum f acc + wsum f l by simpa [dsort, wsum] using h l []
  intro l
  induction l with
  | nil => intro acc; simp [wsum]
  | cons x l ih =>
    intro acc
    have h1 := ih (insD lt x acc)
    have h2 := sum_ins lt f x acc
    simp only [List.foldl_cons]
    have e : wsum f (x :: l) = f x + wsum f l := by simp [wsum]
    omega
theorem cost_norm (x : Need) : (normN x).cost ≤ x.cost := by
  have := sum_dsort lessB Str.cost x.values
  unfold Need.cost normN
  simp only
  omega
theorem cost_out (l : List Need) : wsum Need.cost (outN l) ≤ wsum Need.cost l := by
  refine Nat.le_trans (sum_dsort lessN Need.cost (l.map normN)) ?_
  induction l with
  | nil => simp [wsum]
  | cons x l ih =>
    have := cost_norm x
    simp only [wsum, List.map_cons, List.sum_cons] at ih ⊢
    omega
theorem cost_str (l : List ByteArray) : wsum Str.cost l ≤ l.length := by
  induction l with
  | nil => simp [wsum]
  | cons x l ih =>
    have : Str.cost x ≤ 1 := by unfold Str.cost; omega
    simp only [wsum, List.map_cons, List.sum_cons, List.length_cons] at ih ⊢
    omega
theorem cost_wt (l : List Need) : wsum Need.cost l ≤ 2 * l.length + wsum Need.wt l := by
  induction l with
  | nil => simp [wsum]
  | cons x l ih =>
    have h1 := cost_str x.values
    have h2 := wt_vals x
    have h3 : x.cost ≤ 2 + x.wt := by unfold Need.cost; omega
    simp only [wsum, List.map_cons, List.sum_cons, List.length_cons] at ih ⊢
    omega
theorem sortN_cost {l : List Need} (h : l.length + wsum Need.wt l ≤ 1048576) : wsum Need.cost (sortN l).1 ≤ 2097152 := by
  have h1 := cost_wt l
  by_cases h2 : l.length ≤ 40 ∧ FewN l l.length ∧ SelP (outN l)
  · rw [sortN_yes h2]
    have := cost_out l
    show wsum Need.cost (outN l) ≤ 2097152
    omega
  · rw [sortN_no h2]
    show wsum Need.cost l ≤ 2097152
    omega
end Go.Proofs.YtjcfaepklakpkaaDoor.need
