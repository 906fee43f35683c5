/- Merged: TaintM TaintC TaintS OksTaintS InTaintI FlSrt FlTolerance. -/
import Derived.Test.YtdgedclpaplgoaaGreatDoorGA20
import Derived.Test.YtdgedclpaplgoaaGreatDoorGA5
import Derived.Test.YtdgedclpaplgoaaGreatDoorGA0
import Derived.Test.YtdgedclpaplgoaaGreatDoorGA6
import Derived.Test.YtdgedclpaplgoaaGreatDoorCmpW
import Derived.Test.YtdgedclpaplgoaaGreatDoorGA2
import Derived.Laws.Cover1
import Derived.Test.YtdgedclpaplgoaaGreatDoorRows
import Derived.ProofKit
import Derived.Deep.WholeRow
import Derived.Deep.RegionLaw
namespace Go.Proofs.YtdgedclpaplgoaaGreatDoor.taint
open Go Go.RowKit ty lab dedup
set_option linter.unusedVariables false

/-! Lists that are right as far as k, over any check and order. -/
section
variable {α : Type} {P : α → Prop} {lt : α → α → Bool}
def GoodL (P : α → Prop) (lt : α → α → Bool) (l : List α) (k : Nat) : Prop := ∀ i (h : i < l.length), i < k → P l[i] ∧ ∀ m (hm : m + 1 = i), lt (l[m]'(by omega)) l[i] = true
theorem goodL_next {l : List α} {k : Nat} (h : GoodL P lt l k) (hk : k < l.length) (h2 : P l[k]) (h3 : ∀ m (hm : m + 1 = k), lt (l[m]'(by omega)) l[k] = true) : GoodL P lt l (k + 1) := fun i hi hik => by
  by_cases e : i = k
  · subst e; exact ⟨h2, h3⟩
  · exact h i hi (by omega)
theorem goodL_zero (l : List α) : GoodL P lt l 0 := fun i _ h => absurd h (Nat.not_lt_zero _)
theorem goodL_asc (o : Ord lt) {l : List α} (h : GoodL P lt l l.length) : Asc lt l := by
  unfold Asc
  rw [List.pairwise_iff_getElem]
  intro i j hi hj hij
  induction j with
  | zero => omega
  | succ j ih =>
    have hs := (h (j + 1) hj hj).2 j rfl
    by_cases e : i = j
    · subst e; exact hs
    · exact o.tr _ _ _ (ih (by omega) (by omega)) hs
theorem goodL_all {l : List α} (h : GoodL P lt l l.length) : ∀ x ∈ l, P x := fun x hx => by
  obtain ⟨i, hi, rfl⟩ := List.getElem_of_mem hx
  exact (h i hi hi).1
open Classical in
/-- Put in order, each once; or the list as it was. -/
noncomputable def sortL (P : List α → Prop) (lt : α → α → Bool) (l : List α) : List α × Bool := if l.length ≤ 40 ∧ P (dsort lt l) then (dsort lt l, true) else (l, false)
theorem sortL_yes {P : List α → Prop} {l : List α} (h : l.length ≤ 40 ∧ P (dsort lt l)) : sortL P lt l = (dsort lt l, true) := by unfold sortL; rw [if_pos h]
theorem sortL_no {P : List α → Prop} {l : List α} (h : ¬ (l.length ≤ 40 ∧ P (dsort lt l))) : sortL P lt l = (l, false) := by unfold sortL; rw [if_neg h]
theorem sortL_cases (P : List α → Prop) (l : List α) : sortL P lt l = (l, false) ∨ (sortL P lt l = (dsort lt l, true) ∧ P (dsort lt l)) := by
  by_cases h : l.length ≤ 40 ∧ P (dsort lt l)
  · exact .inr ⟨sortL_yes h, h.2⟩
  · exact .inl (sortL_no h)
theorem sortL_len {P : List α → Prop} {l : List α} {n : Nat} (h : l.length ≤ n) : (sortL P lt l).1.length ≤ n := by
  rcases sortL_cases (lt := lt) P l with e | ⟨e, _⟩ <;> rw [e]
  · exact h
  · exact Nat.le_trans (dsort_length _ _) h
theorem sortL_sub {P : List α → Prop} {l : List α} : ∀ x ∈ (sortL P lt l).1, x ∈ l := fun x hx => by
  rcases sortL_cases (lt := lt) P l with e | ⟨e, _⟩ <;> rw [e] at hx
  · exact hx
  · exact dsort_sub _ _ x hx
end

/-! Taints. -/
structure TaintP (x : Taint) : Prop where
  key : KeyP x.key
  value : ValP x.value
  lo : 1 ≤ x.effect
  hi : x.effect ≤ 2
def lessT (a b : Taint) : Bool := if a.key = b.key then (if a.value = b.value then decide (a.effect < b.effect) else lessB a.value b.value) else lessB a.key b.key
theorem lessB_irr' (a : ByteArray) : lessB a a = false := less_irr _
theorem lessB_tr' (a b c : ByteArray) (h1 : lessB a b = true) (h2 : lessB b c = true) : lessB a c = true := less_trans _ _ _ h1 h2
theorem lessB_ne' {a b : ByteArray} (h : lessB a b = true) : a ≠ b := fun e => by rw [e, lessB_irr'] at h; cases h
theorem lessB_tot' (a b : ByteArray) (h1 : lessB a b = false) (h2 : lessB b a = false) : a = b := key_same h1 h2
/-- One key ahead of another order. -/
def lexB {β : Type} (f : β → ByteArray) (r : β → β → Bool) (a b : β) : Bool := if f a = f b then r a b else lessB (f a) (f b)
theorem lexB_ord {β : Type} (f : β → ByteArray) (r : β → β → Bool) (irr : ∀ a, r a a = false) (tot : ∀ a b, f a = f b → r a b = false → r b a = false → a = b) (tr : ∀ a b c, r a b = true → r b c = true → r a c = true) : Ord (lexB f r) := by
  refine ⟨fun a => ?_, fun a b h1 h2 => ?_, fun a b c h1 h2 => ?_⟩
  · unfold lexB; rw [if_pos rfl]; exact irr a
  · unfold lexB at h1 h2
    by_cases e : f a = f b
    · rw [if_pos e] at h1
      rw [if_pos e.symm] at h2
      exact tot a b e h1 h2
    · rw [if_neg e] at h1
      rw [if_neg (fun h => e h.symm)] at h2
      exact absurd (lessB_tot' _ _ h1 h2) e
  · unfold lexB at h1 h2 ⊢
    by_cases e1 : f a = f b
    · rw [if_pos e1] at h1
      by_cases e2 : f b = f c
      · rw [if_pos e2] at h2
        rw [if_pos (e1.trans e2)]
        exact tr _ _ _ h1 h2
      · rw [if_neg e2] at h2
        rw [if_neg (by rw [e1]; exact e2), e1]
        exact h2
    · rw [if_neg e1] at h1
      by_cases e2 : f b = f c
      · rw [if_neg (by rw [← e2]; exact e1), ← e2]
        exact h1
      · rw [if_neg e2] at h2
        have h3 := lessB_tr' _ _ _ h1 h2
        rw [if_neg (lessB_ne' h3)]
        exact h3
theorem lessT_lex (a b : Taint) : lessT a b = lexB Taint.key (lexB Taint.value fun a b => decide (a.effect < b.effect)) a b := rfl
theorem ordT : Ord lessT := by
  have e : lessT = lexB Taint.key (lexB Taint.value fun a b => decide (a.effect < b.effect)) := rfl
  rw [e]
  refine lexB_ord _ _ (fun a => ?_) (fun a b hk h1 h2 => ?_) (fun a b c h1 h2 => ?_)
  · unfold lexB; simp
  · unfold lexB at h1 h2
    by_cases ev : a.value = b.value
    · rw [if_pos ev] at h1
      rw [if_pos ev.symm] at h2
      simp only [decide_eq_false_iff_not] at h1 h2
      cases a; cases b
      simp only at *
      obtain rfl := hk
      obtain rfl := ev
      congr
      omega
    · rw [if_neg ev] at h1
      rw [if_neg (fun h => ev h.symm)] at h2
      exact absurd (lessB_tot' _ _ h1 h2) ev
  · unfold lexB at h1 h2 ⊢
    by_cases e1 : a.value = b.value
    · rw [if_pos e1] at h1
      by_cases e2 : b.value = c.value
      · rw [if_pos e2] at h2
        rw [if_pos (e1.trans e2)]
        simp only [decide_eq_true_eq] at h1 h2 ⊢
        omega
      · rw [if_neg e2] at h2
        rw [if_neg (by rw [e1]; exact e2), e1]
        exact h2
    · rw [if_neg e1] at h1
      by_cases e2 : b.value = c.value
      · rw [if_neg (by rw [← e2]; exact e1), ← e2]
        exact h1
      · rw [if_neg e2] at h2
        have h3 := lessB_tr' _ _ _ h1 h2
        rw [if_neg (lessB_ne' h3)]
        exact h3
def TaintsP (l : List Taint) : Prop := l.length ≤ 4 ∧ GoodL TaintP lessT l l.length

/-! Tolerations. -/
structure TolP (x : Tolerance) : Prop where
  lo : 0 ≤ x.effect
  hi : x.effect ≤ 2
  free : x.equal = false → x.value.size = 0 ∧ (x.key.size = 0 ∨ KeyP x.key)
  eq : x.equal = true → KeyP x.key ∧ ValP x.value
/-- Behind the key and Equal. -/
def befV (a b : Tolerance) : Bool := if a.value = b.value then decide (a.effect < b.effect) else lessB a.value b.value
def befE (a b : Tolerance) : Bool := if a.equal = b.equal then befV a b else b.equal
def befT (a b : Tolerance) : Bool := if a.key = b.key then befE a b else lessB a.key b.key
theorem befV_irr (a : Tolerance) : befV a a = false := by unfold befV; simp
theorem befV_tot {a b : Tolerance} (hk : a.key = b.key) (he : a.equal = b.equal) (h1 : befV a b = false) (h2 : befV b a = false) : a = b := by
  unfold befV at h1 h2
  by_cases ev : a.value = b.value
  · rw [if_pos ev] at h1
    rw [if_pos ev.symm] at h2
    simp only [decide_eq_false_iff_not] at h1 h2
    cases a; cases b
    simp only at *
    obtain rfl := hk
    obtain rfl := he
    obtain rfl := ev
    congr
    omega
  · rw [if_neg ev] at h1
    rw [if_neg (fun h => ev h.symm)] at h2
    exact absurd (lessB_tot' _ _ h1 h2) ev
theorem befV_tr {a b c : Tolerance} (h1 : befV a b = true) (h2 : befV b c = true) : befV a c = true := by
  unfold befV at h1 h2 ⊢
  by_cases e1 : a.value = b.value
  · rw [if_pos e1] at h1
    by_cases e2 : b.value = c.value
    · rw [if_pos e2] at h2
      rw [if_pos (e1.trans e2)]
      simp only [decide_eq_true_eq] at h1 h2 ⊢
      omega
    · rw [if_neg e2] at h2
      rw [if_neg (by rw [e1]; exact e2), e1]
      exact h2
  · rw [if_neg e1] at h1
    by_cases e2 : b.value = c.value
    · rw [if_neg (by rw [← e2]; exact e1), ← e2]
      exact h1
    · rw [if_neg e2] at h2
      have h3 := lessB_tr' _ _ _ h1 h2
      rw [if_neg (lessB_ne' h3)]
      exact h3
theorem ordO : Ord befT := by
  have e : befT = lexB Tolerance.key befE := rfl
  rw [e]
  refine lexB_ord _ _ (fun a => ?_) (fun a b hk h1 h2 => ?_) (fun a b c h1 h2 => ?_)
  · unfold befE; rw [if_pos rfl]; exact befV_irr a
  · unfold befE at h1 h2
    by_cases ee : a.equal = b.equal
    · rw [if_pos ee] at h1
      rw [if_pos ee.symm] at h2
      exact befV_tot hk ee h1 h2
    · rw [if_neg ee] at h1
      rw [if_neg (fun h => ee h.symm)] at h2
      exact absurd (by rw [h1, h2]) ee
  · unfold befE at h1 h2 ⊢
    by_cases e1 : a.equal = b.equal
    · rw [if_pos e1] at h1
      by_cases e2 : b.equal = c.equal
      · rw [if_pos e2] at h2
        rw [if_pos (e1.trans e2)]
        exact befV_tr h1 h2
      · rw [if_neg e2] at h2
        rw [if_neg (by rw [e1]; exact e2)]
        exact h2
    · rw [if_neg e1] at h1
      by_cases e2 : b.equal = c.equal
      · rw [if_neg (by rw [← e2]; exact e1), ← e2]
        exact h1
      · rw [if_neg e2] at h2
        exact absurd (h1.trans h2.symm) e2
def TolsP (l : List Tolerance) : Prop := l.length ≤ 4 ∧ GoodL TolP befT l l.length

/-! Who tolerates what. -/
open Classical in
noncomputable def tolF (t : Tolerance) (x : Taint) : Bool := decide (TolP t ∧ TaintP x ∧ (t.key.size = 0 ∨ t.key = x.key) ∧ (t.equal = false ∨ t.value = x.value) ∧ (t.effect = 0 ∨ t.effect = x.effect))
/-- Is the taint with that effect tolerated by none? -/
noncomputable def keptBy (l : List Tolerance) (e : Int) (x : Taint) : Bool := decide (x.effect = e) && !l.any (fun t => tolF t x)
noncomputable def unF (l : List Tolerance) (taints : List Taint) (e : Int) : Nat := (taints.filter (keptBy l e)).length
theorem unF_snoc (l : List Tolerance) (taints : List Taint) (x : Taint) (e : Int) : unF l (taints ++ [x]) e = unF l taints e + (if keptBy l e x = true then 1 else 0) := by
  unfold unF
  rw [List.filter_append, List.length_append]
  by_cases h : keptBy l e x = true
  · rw [if_pos h]; simp [h]
  · rw [if_neg h]; simp [h]
theorem unF_le (l : List Tolerance) (taints : List Taint) (e : Int) : unF l taints e ≤ taints.length := List.length_filter_le _ _
theorem filter_le {α : Type} {p q : α → Bool} (h : ∀ x, p x = true → q x = true) : ∀ l : List α, (l.filter p).length ≤ (l.filter q).length
  | [] => Nat.le_refl _
  | x :: l => by
    have ih := filter_le h l
    by_cases hp : p x = true
    · rw [List.filter_cons_of_pos hp, List.filter_cons_of_pos (h x hp)]
      simp only [List.length_cons]; omega
    · rw [List.filter_cons_of_neg hp]
      by_cases hq : q x = true
      · rw [List.filter_cons_of_pos hq]
        simp only [List.length_cons]; omega
      · rw [List.filter_cons_of_neg hq]; exact ih
/-- One toleration more keeps no more away. -/
theorem unF_more (l : List Tolerance) (t : Tolerance) (taints : List Taint) (e : Int) : unF (l ++ [t]) taints e ≤ unF l taints e :=
  filter_le (fun x h => by
    unfold keptBy at h ⊢
    simp only [Bool.and_eq_true, Bool.not_eq_true', List.any_append, Bool.or_eq_false_iff] at h ⊢
    exact ⟨h.1, h.2.1⟩) taints
/-- The toleration of all. -/
def allT : Tolerance := ⟨⟨#[]⟩, false, ⟨#[]⟩, 0⟩
theorem all_ok : TolP allT := ⟨by decide, by decide, fun _ => ⟨rfl, .inl rfl⟩, fun h => by cases h⟩
open Classical in
theorem tol_all {x : Taint} (h : TaintP x) : tolF allT x = true := by
  unfold tolF
  exact decide_eq_true ⟨all_ok, h, .inl rfl, .inl rfl, .inl rfl⟩
open Classical in
/-- So it leaves at most what is no right taint. -/
theorem unF_all (taints : List Taint) (e : Int) : unF [allT] taints e ≤ (taints.filter fun x => !decide (TaintP x)).length :=
  filter_le (fun x h => by
    unfold keptBy at h
    simp only [Bool.and_eq_true, Bool.not_eq_true', List.any_cons, List.any_nil, Bool.or_false] at h
    by_cases hx : TaintP x
    · rw [tol_all hx] at h; cases h.2
    · simp [hx]) taints
end Go.Proofs.YtdgedclpaplgoaaGreatDoor.taint
namespace Go.Proofs.YtdgedclpaplgoaaGreatDoor
open Go Go.RowKit
set_option linter.unusedVariables false
namespace taint
open ty lab need
def cmpT (a b : Taint) : Int := orI (cmpB a.key b.key) (cmpB a.value b.value) (arith.cmpF a.effect b.effect)
theorem cmpF_way (a b : Int) : (arith.cmpF a b = 0 ∧ a = b) ∨ (arith.cmpF a b < 0 ∧ a < b) ∨ (0 < arith.cmpF a b ∧ b < a) := by
  unfold arith.cmpF
  by_cases h : a < b
  · rw [if_pos h]; omega
  · rw [if_neg h]
    by_cases h2 : b < a
    · rw [if_pos h2]; omega
    · rw [if_neg h2]; omega
theorem wayT : CmpWay cmpT lessT := fun a b => by
  obtain ⟨k1, v1, e1⟩ := a
  obtain ⟨k2, v2, e2⟩ := b
  unfold cmpT lessT orI
  simp only
  rcases cmpB_way k1 k2 with ⟨h1, h2⟩ | ⟨h1, h2, h3⟩ | ⟨h1, h2, h3⟩
  · rw [if_pos h1, if_pos h2]
    subst h2
    rcases cmpB_way v1 v2 with ⟨g1, g2⟩ | ⟨g1, g2, g3⟩ | ⟨g1, g2, g3⟩
    · rw [if_pos g1, if_pos g2]
      subst g2
      rcases cmpF_way e1 e2 with ⟨f1, f2⟩ | ⟨f1, f2⟩ | ⟨f1, f2⟩
      · exact .inl ⟨f1, by rw [f2]⟩
      · exact .inr (.inl ⟨f1, fun e => by injection e; omega, decide_eq_true f2⟩)
      · exact .inr (.inr ⟨f1, fun e => by injection e; omega, decide_eq_false (by omega)⟩)
    · rw [if_neg (by omega), if_neg g2]
      exact .inr (.inl ⟨g1, fun e => by injection e; exact g2 (by assumption), g3⟩)
    · rw [if_neg (by omega), if_neg g2]
      exact .inr (.inr ⟨g1, fun e => by injection e; exact g2 (by assumption), g3⟩)
  · rw [if_neg (by omega), if_neg h2]
    exact .inr (.inl ⟨h1, fun e => by injection e; exact h2 (by assumption), h3⟩)
  · rw [if_neg (by omega), if_neg h2]
    exact .inr (.inr ⟨h1, fun e => by injection e; exact h2 (by assumption), h3⟩)
/-- Two flags compared: false ahead of true. -/
def cmpY (a b : Bool) : Int := if a = b then 0 else if b = true then -1 else 1
theorem cmpY_way (a b : Bool) : (cmpY a b = 0 ∧ a = b) ∨ (cmpY a b < 0 ∧ a ≠ b ∧ b = true) ∨ (0 < cmpY a b ∧ a ≠ b ∧ b = false) := by
  cases a <;> cases b <;> decide
def cmpO (a b : Tolerance) : Int := orI (cmpB a.key b.key) (cmpY a.equal b.equal) (orI (cmpB a.key b.key) (cmpB a.value b.value) (arith.cmpF a.effect b.effect))
theorem wayO : CmpWay cmpO befT := fun a b => by
  obtain ⟨k1, q1, v1, e1⟩ := a
  obtain ⟨k2, q2, v2, e2⟩ := b
  unfold cmpO befT befE befV orI
  simp only
  rcases cmpB_way k1 k2 with ⟨h1, h2⟩ | ⟨h1, h2, h3⟩ | ⟨h1, h2, h3⟩
  · rw [if_pos h1, if_pos h2]
    subst h2
    rcases cmpY_way q1 q2 with ⟨y1, y2⟩ | ⟨y1, y2, y3⟩ | ⟨y1, y2, y3⟩
    · rw [if_pos y1, if_pos y2]
      subst y2
      rcases cmpB_way v1 v2 with ⟨g1, g2⟩ | ⟨g1, g2, g3⟩ | ⟨g1, g2, g3⟩
      · rw [if_pos h1, if_pos g1, if_pos g2]
        subst g2
        rcases cmpF_way e1 e2 with ⟨f1, f2⟩ | ⟨f1, f2⟩ | ⟨f1, f2⟩
        · exact .inl ⟨f1, by rw [f2]⟩
        · exact .inr (.inl ⟨f1, fun e => by injection e; omega, decide_eq_true f2⟩)
        · exact .inr (.inr ⟨f1, fun e => by injection e; omega, decide_eq_false (by omega)⟩)
      · rw [if_pos h1, if_neg (by omega), if_neg g2]
        exact .inr (.inl ⟨g1, fun e => by injection e; exact g2 (by assumption), g3⟩)
      · rw [if_pos h1, if_neg (by omega), if_neg g2]
        exact .inr (.inr ⟨g1, fun e => by injection e; exact g2 (by assumption), g3⟩)
    · rw [if_neg (by omega), if_neg y2]
      exact .inr (.inl ⟨y1, fun e => by injection e; exact y2 (by assumption), y3⟩)
    · rw [if_neg (by omega), if_neg y2]
      exact .inr (.inr ⟨y1, fun e => by injection e; exact y2 (by assumption), y3⟩)
  · rw [if_neg (by omega), if_neg h2]
    exact .inr (.inl ⟨h1, fun e => by injection e; exact h2 (by assumption), h3⟩)
  · rw [if_neg (by omega), if_neg h2]
    exact .inr (.inr ⟨h1, fun e => by injection e; exact h2 (by assumption), h3⟩)
end taint
end Go.Proofs.YtdgedclpaplgoaaGreatDoor
namespace Go.Proofs.YtdgedclpaplgoaaGreatDoor.taint
open Go.ChangeShapes Go.WideShapes Go.ChangeAt Go.RowKit ty lab need
set_option linter.unusedVariables false

theorem yes_and3 (p q r : Prop) : yes (p ∧ q ∧ r) = (yes p && (yes q && yes r)) := by
  by_cases hp : p
  · by_cases hq : q
    · by_cases hr : r
      · rw [yes_t hp, yes_t hq, yes_t hr, yes_t ⟨hp, hq, hr⟩]; rfl
      · rw [yes_t hp, yes_t hq, yes_f hr, yes_f fun h => hr h.2.2]; rfl
    · rw [yes_t hp, yes_f hq, yes_f fun h => hq h.2.1]; rfl
  · rw [yes_f hp, yes_f fun h => hp h.1]; rfl
theorem in_call (n : Int) (w : World) (a b : Int) : Calls Tryz.prog 109 #[.int .i64 n, .int .i64 a, .int .i64 b] w fun e w' => e = .returned (.bool (yes (a ≤ n ∧ n ≤ b))) ∧ w = w' := by
  by_cases hE : a ≤ n ∧ n ≤ b
  · rw [yes_t hE]; exact arith.in_yes n a b w hE.1 hE.2
  · rw [yes_f hE]; exact arith.in_no n a b w (by omega)
set_option maxRecDepth 100000 in
set_option maxHeartbeats 8000000 in
theorem spec_taint (x : Taint) (w : World) (hz : x.wt ≤ 1048576) :
    Calls Tryz.prog 60 #[.agg #[.string x.key, .string x.value, .int .i64 x.effect]] w fun e w' => e = .returned (.bool (yes (TaintP x))) ∧ Below w.heap.size w w' := by
  unfold Taint.wt at hz
  obtain ⟨k, a, n⟩ := x
  simp only at *
  rw [show yes (TaintP ⟨k, a, n⟩) = yes (KeyP k ∧ ValP a ∧ (1 ≤ n ∧ n ≤ 2)) from by congr 1; exact propext ⟨fun h => ⟨h.key, h.value, h.lo, h.hi⟩, fun h => ⟨h.1, h.2.1, h.2.2.1, h.2.2.2⟩⟩, yes_and3]
  have HK := Lib.hid (fun w' => spec_key k w' (by omega))
  have HV := Lib.hid (fun w' => spec_val a w' (by omega))
  have HI := Lib.hid (fun w' => in_call n w' 1 2)
  have Hb0 := Lib.hid (fun (o : Obj) n => below_drewN ((Below.refl w.heap.size w).alloc (Nat.le_refl _) o) n)
  clear hz
  generalize yes (KeyP k) = b1 at HK ⊢
  generalize yes (ValP a) = b2 at HV ⊢
  generalize yes (1 ≤ n ∧ n ≤ 2) = b3 at HI ⊢
  cases b1 with
  | false =>
    go_enter Tryz.func60, Tryz.ntmps60
    go_wp2_with fail
    refine (HK.out _).mono ?_
    rintro e w1 ⟨rfl, n1, rfl⟩
    go_wp2_with fail
    go_ret
    exact ⟨rfl, Hb0.out _ _⟩
  | true =>
  cases b2 with
  | false =>
    go_enter Tryz.func60, Tryz.ntmps60
    go_wp2_with fail
    refine (HK.out _).mono ?_
    rintro e w1 ⟨rfl, n1, rfl⟩
    go_wp2_with fail
    refine (HV.out _).mono ?_
    rintro e w1 ⟨rfl, n2, rfl⟩
    go_wp2_with fail
    go_ret
    exact ⟨rfl, by simpa using Hb0.out _ _⟩
  | true =>
    go_enter Tryz.func60, Tryz.ntmps60
    go_wp2_with fail
    refine (HK.out _).mono ?_
    rintro e w1 ⟨rfl, n1, rfl⟩
    go_wp2_with fail
    refine (HV.out _).mono ?_
    rintro e w1 ⟨rfl, n2, rfl⟩
    go_wp2_with fail
    refine (HI.out _).mono ?_
    rintro e w1 ⟨rfl, rfl⟩
    go_wp2_with fail
    go_ret
    exact ⟨by cases b3 <;> rfl, by simpa using Hb0.out _ _⟩
theorem lessT_key {a b : Taint} (h : ¬ a.key = b.key) : lessT a b = lessB a.key b.key := by unfold lessT; rw [if_neg h]
theorem lessT_val {a b : Taint} (h : a.key = b.key) (h2 : ¬ a.value = b.value) : lessT a b = lessB a.value b.value := by unfold lessT; rw [if_pos h, if_neg h2]
theorem lessT_eff {a b : Taint} (h : a.key = b.key) (h2 : a.value = b.value) : lessT a b = decide (a.effect < b.effect) := by unfold lessT; rw [if_pos h, if_pos h2]
set_option maxRecDepth 100000 in
set_option maxHeartbeats 16000000 in
theorem spec_lessT (x y : Taint) (w : World) :
    Calls Tryz.prog 56 #[.agg #[.string x.key, .string x.value, .int .i64 x.effect], .agg #[.string y.key, .string y.value, .int .i64 y.effect]] w fun e w' => e = .returned (.bool (lessT x y)) ∧ Below w.heap.size w w' := by
  obtain ⟨R, hR⟩ : ∃ R, lessT x y = R := ⟨_, rfl⟩
  rw [hR]
  have Hk : Hid (¬ x.key = y.key → R = lessB x.key y.key) := fun h => by rw [← hR]; exact lessT_key h
  have Hv : Hid (x.key = y.key → ¬ x.value = y.value → R = lessB x.value y.value) := fun h h2 => by rw [← hR]; exact lessT_val h h2
  have He : Hid (x.key = y.key → x.value = y.value → R = decide (x.effect < y.effect)) := fun h h2 => by rw [← hR]; exact lessT_eff h h2
  obtain ⟨k1, v1, n1⟩ := x
  obtain ⟨k2, v2, n2⟩ := y
  simp only at *
  have Hb := Lib.hid (fun a b : Obj => ((Below.refl w.heap.size w).alloc (Nat.le_refl _) a).alloc (by simp) b)
  clear hR
  by_cases hk : k1 = k2
  case neg =>
    have Hf := Lib.hid (Hk.out hk)
    have hs := same_no hk
    unfold lessB at Hf
    clear hk Hk Hv He
    go_enter Tryz.func56, Tryz.ntmps56
    go_wp2_with fail
    go_ret
    exact ⟨by rw [Hf.out]; rfl, Hb.out _ _⟩
  have hs := same_yes hk
  by_cases hv : v1 = v2
  case neg =>
    have Hf := Lib.hid (Hv.out hk hv)
    have ht := same_no hv
    unfold lessB at Hf
    clear hk hv Hk Hv He
    go_enter Tryz.func56, Tryz.ntmps56
    go_wp2_with fail
    go_ret
    exact ⟨by rw [Hf.out]; rfl, Hb.out _ _⟩
  have ht := same_yes hv
  have Hf := Lib.hid (He.out hk hv)
  clear hk hv Hk Hv He
  go_enter Tryz.func56, Tryz.ntmps56
  go_wp2_with fail
  go_ret
  exact ⟨by rw [Hf.out]; rfl, Hb.out _ _⟩
end Go.Proofs.YtdgedclpaplgoaaGreatDoor.taint
namespace Go.Proofs.YtdgedclpaplgoaaGreatDoor.taint
open Go.ChangeShapes Go.WideShapes Go.ChangeAt Go.RowKit ty lab dedup need
set_option linter.unusedVariables false

set_option maxRecDepth 100000 in
set_option maxHeartbeats 16000000 in
theorem spec_oksTaint (l : List Taint) (f : Nat) (v : Value) (w : World) (h : Lies w f v (.sl 3 l.length (l.flatMap Taint.row))) (hz : wsum Taint.wt l ≤ 1048576) :
    Calls Tryz.prog 22 #[v] w fun e w' => e = .returned (.bool (yes (TaintsP l))) ∧ Below w.heap.size w w' := by
  obtain ⟨A, c, rfl, hc1, hc2, f', rfl, hk⟩ := els_of Taint.row_length h
  unfold maxLen at hc2
  obtain ⟨R, hR⟩ : ∃ R, yes (TaintsP l) = R := ⟨_, rfl⟩
  rw [hR]
  have Hno : Hid (¬ TaintsP l → R = false) := fun h => by rw [← hR]; exact yes_f h
  have Hyes : Hid (TaintsP l → R = true) := fun h => by rw [← hR]; exact yes_t h
  have Hk := Lib.hid hk
  have Hz := Lib.hid (fun j (hj : j < l.length) => Nat.le_trans (wsum_mem Taint.wt hj) hz)
  clear h hk hR hz
  by_cases h4 : 4 < l.length
  · have Hf := Lib.hid (Hno.out fun h2 => by have := h2.1; omega)
    go_enter Tryz.func22, Tryz.ntmps22
    go_wp2_with fail
    go_ret
    exact ⟨by rw [Hf.out]; rfl, Below.refl _ _⟩
  have Hmk := Lib.hid (fun h3 => Hyes.out ⟨by omega, h3⟩)
  have Hng := Lib.hid (fun (h3 : ¬ GoodL TaintP lessT l l.length) => Hno.out (fun h => h3 h.2))
  clear Hno Hyes
  go_enter Tryz.func22, Tryz.ntmps22
  go_wp2_with fail
  go_loopw [3] (fun i wr => ∃ j : Nat, j ≤ l.length ∧ i = .int .i64 j ∧ Hid (GoodL TaintP lessT l j) ∧ Below w.heap.size w wr) (fun i _ => l.length - (intOf i).toNat)
  case atStart => exact ⟨0, Nat.zero_le _, rfl, fun i hi hj => by omega, Below.refl _ _⟩
  case round =>
    obtain ⟨j, hj, rfl, hgood, hbel⟩ := hrel
    have Hbel := Lib.hid hbel
    by_cases hlt : j < l.length
    · obtain ⟨g, o, rfl, hg, us, hus, hc, hls⟩ := (Hk.out.below hbel).get hlt
      obtain ⟨rfl, hwf⟩ := Taint.opened hls
      have q0 : ∀ p : BelowBy wr, p.v.cell? ⟨g, o + j * 3, none⟩ = some (.string l[j].key) := fun p => p.cell hg (hc 0 _ rfl)
      have q1 : ∀ p : BelowBy wr, p.v.cell? ⟨g, o + j * 3 + 1, none⟩ = some (.string l[j].value) := fun p => p.cell hg (hc 1 _ rfl)
      have q2 : ∀ p : BelowBy wr, p.v.cell? ⟨g, o + j * 3 + 2, none⟩ = some (.int .i64 l[j].effect) := fun p => p.cell hg (hc 2 _ rfl)
      have HN := Lib.hid (fun p : BelowBy wr => spec_taint l[j] p.v (Hz.out j hlt))
      have HW2 : Hid (∀ p : BelowBy wr, Below w.heap.size w p.v) := fun p => below_link hbel p.h hbel.size
      have hj0 : (0 : Int) ≤ (j : Int) := by omega
      have hjn : (j : Int) < (l.length : Int) := by omega
      by_cases hP : TaintP l[j]
      case neg =>
        have Hf := Lib.hid (Hng.out fun h2 => hP (h2 j hlt hlt).1)
        rw [yes_f hP] at HN
        clear hP Hng Hmk hgood hls hus hc hg hwf Hk hbel
        generalize l[j] = x at *
        go_wp2_with fail
        refine wp_region_quiet_below (by kernel_rfl) (by kernel_rfl) ?_
        repeat (refine @wpQuiet_step _ _ _ _ _ _ _ ?_; intro K hK; go_simp; first | (refine hK _ ?_; clear hK K) | (apply Exists.intro; refine ⟨fun _ => ?_, hK _ ?_⟩; (first | (go_at_call 60; exact Calls.below_of (HN.out _))); clear hK K))
        refine wpQuiet_nil ?_
        intro _ hw'
        obtain ⟨p, rfl⟩ := hw'
        go_wp2_with fail
        go_ret
        exact ⟨by rw [Hf.out]; rfl, HW2.out p⟩
      rw [yes_t hP] at HN
      by_cases hz : j = 0
      · have Hg := Lib.hid (goodL_next hgood.out hlt hP (fun m hm => by omega))
        have hn0 : ¬ (0 : Int) < (j : Int) := by omega
        have hn1 : ¬ 0 < j := by omega
        clear hP Hng Hmk hgood hls hus hc hg hwf Hk hz hbel
        generalize l[j] = x at *
        go_wp2_with fail
        refine wp_region_quiet_below (by kernel_rfl) (by kernel_rfl) ?_
        repeat (refine @wpQuiet_step _ _ _ _ _ _ _ ?_; intro K hK; go_simp; first | (refine hK _ ?_; clear hK K) | (apply Exists.intro; refine ⟨fun _ => ?_, hK _ ?_⟩; (first | (go_at_call 60; exact Calls.below_of (HN.out _))); clear hK K))
        refine wpQuiet_nil ?_
        intro _ hw'
        obtain ⟨p, rfl⟩ := hw'
        go_wp2_with fail
        go_roundw
        case rel => exact ⟨j + 1, by omega, by go_num, Hg.out, HW2.out p⟩
        case measure => simp [intOf]; omega
      obtain ⟨m, hm⟩ : ∃ m, m + 1 = j := ⟨j - 1, by omega⟩
      have hml : m < l.length := by omega
      obtain ⟨g', o', hA3, hg2, us2, hus2, hc2', hls2⟩ := (Hk.out.below hbel).get hml
      injection hA3 with hA3
      injection hA3 with e1 e2
      subst e1 e2
      obtain ⟨rfl, _⟩ := Taint.opened hls2
      have HC := Lib.hid (fun p : BelowBy wr => spec_lessT l[m] l[j] p.v)
      have R0 : ∀ p : BelowBy wr, p.v.cell? ⟨g, o + m * 3, none⟩ = some (.string l[m].key) := fun p => p.cell hg (hc2' 0 _ rfl)
      have R1 : ∀ p : BelowBy wr, p.v.cell? ⟨g, o + m * 3 + 1, none⟩ = some (.string l[m].value) := fun p => p.cell hg (hc2' 1 _ rfl)
      have R2 : ∀ p : BelowBy wr, p.v.cell? ⟨g, o + m * 3 + 2, none⟩ = some (.int .i64 l[m].effect) := fun p => p.cell hg (hc2' 2 _ rfl)
      have hmi : (j : Int) - 1 = (m : Int) := by omega
      have hwm : IntKind.i64.wrap (m : Int) = (m : Int) := IntWalk.i64_in _ (by omega)
      have hm0 : (0 : Int) ≤ (m : Int) := by omega
      have hm1 : (m : Int) < (l.length : Int) := by omega
      have hjp : (0 : Int) < (j : Int) := by omega
      have hjp1 : 0 < j := by omega
      cases hb : lessT l[m] l[j] with
      | true =>
        have Hg := Lib.hid (goodL_next hgood.out hlt hP (fun m' hm' => by obtain rfl : m' = m := by omega
                                                                          exact hb))
        rw [hb] at HC
        clear hP Hng Hmk hgood hls hus hc hg hwf hls2 hus2 hc2' hg2 Hk hz hm hb hbel
        generalize l[j] = x at *
        generalize l[m] = y at *
        go_wp2_with fail
        refine wp_region_quiet_below (by kernel_rfl) (by kernel_rfl) ?_
        repeat (refine @wpQuiet_step _ _ _ _ _ _ _ ?_; intro K hK; go_simp; first | (refine hK _ ?_; clear hK K) | (apply Exists.intro; refine ⟨fun _ => ?_, hK _ ?_⟩; (first | (go_at_call 60; exact Calls.below_of (HN.out _)) | (go_at_call 56; exact Calls.below_of (HC.out _))); clear hK K))
        refine wpQuiet_nil ?_
        intro _ hw'
        obtain ⟨p, rfl⟩ := hw'
        go_wp2_with fail
        go_roundw
        case rel => exact ⟨j + 1, by omega, by go_num, Hg.out, HW2.out p⟩
        case measure => simp [intOf]; omega
      | false =>
        have Hf := Lib.hid (Hng.out fun h2 => by
          have := (h2 j hlt hlt).2 m hm
          rw [hb] at this; cases this)
        rw [hb] at HC
        clear hP Hng Hmk hgood hls hus hc hg hwf hls2 hus2 hc2' hg2 Hk hz hm hb hbel
        generalize l[j] = x at *
        generalize l[m] = y at *
        go_wp2_with fail
        refine wp_region_quiet_below (by kernel_rfl) (by kernel_rfl) ?_
        repeat (refine @wpQuiet_step _ _ _ _ _ _ _ ?_; intro K hK; go_simp; first | (refine hK _ ?_; clear hK K) | (apply Exists.intro; refine ⟨fun _ => ?_, hK _ ?_⟩; (first | (go_at_call 60; exact Calls.below_of (HN.out _)) | (go_at_call 56; exact Calls.below_of (HC.out _))); clear hK K))
        refine wpQuiet_nil ?_
        intro _ hw'
        obtain ⟨p, rfl⟩ := hw'
        go_wp2_with fail
        go_ret
        exact ⟨by rw [Hf.out]; rfl, HW2.out p⟩
    · obtain rfl : j = l.length := by omega
      have Hf := Lib.hid (Hmk.out hgood.out)
      clear hgood hbel
      go_wp2_with fail
      go_ret
      exact ⟨by rw [Hf.out]; rfl, Hbel.out⟩
end Go.Proofs.YtdgedclpaplgoaaGreatDoor.taint
namespace Go.Proofs.YtdgedclpaplgoaaGreatDoor.taint
open Go Go.RowKit
theorem TryzinfITaint : (Tryz.prog.info? 44).map (fun i => (i.zero, i.size, i.bytes)) = some (some (.agg #[.string ⟨#[]⟩, .string ⟨#[]⟩, .int .i64 0]), 3, 40) := by kernel_rfl
end Go.Proofs.YtdgedclpaplgoaaGreatDoor.taint
namespace Go.Proofs.YtdgedclpaplgoaaGreatDoor.flt
open Go Go.RowKit
set_option linter.unusedVariables false

/-- The first append of the region: onto a new slice that is empty. -/
theorem step_first {P : Program} {ops : Array Oper} {o : Oper} {a : Act} {X wd : World} {K : Act → World → Prop} {Q : Exit → Act → World → Prop} {E : Prop}
    (hg : o.guard = none) (s x : Operand) (t : TypeId) (hop : o.op = Op.call { callee := Callee.builtin Builtin.append, args := #[s, x], argTypes := #[t, t] })
    (e : TypeId) (i : TypeInfo) (z : Value) (size bytes : Nat) (ht : P.underlying t = some (.slice e)) (hi : P.info? e = some i) (hz : i.zero = some z)
    (hsize : i.size = size) (hby : i.bytes = bytes) (hzs : z.cells.size = size) (hsz : 0 < size) (hbb : bytes ≤ 1000)
    (b : Nat) (hs : a.eval s = .slice (some ⟨b, 0, none⟩) 0 0) (hX : Below wd.heap.size wd X) (hown : X.ownsRow wd.heap.size e size (.slice (some ⟨b, 0, none⟩) 0 0) 0 [])
    (A : Option Addr) (k c : Nat) (news : List Value) (hx : a.eval x = .slice A k c) (hr : RdK wd A k size news) (h1 : ∀ u ∈ news, u.oneCell' = true) (hk : k ≤ 64)
    (hK : ∀ v' w', w'.ownsRow wd.heap.size e size v' k news → Below wd.heap.size wd w' → X.heap.size ≤ w'.heap.size → (∀ q, q < X.heap.size → q ≠ b → w'.heap[q]? = X.heap[q]?) → K (a.put o.dst v') w') :
    if Region.wanted o (yielded ops a.tmps) = true then Oper.wp P o a X K Q else E := by
  have hbb2 : (0 + k) * bytes ≤ 140737488355328 := Nat.le_trans (Nat.mul_le_mul (show 0 + k ≤ 64 by omega) hbb) (by decide)
  refine step_append_rdk hg s x t hop wd.heap.size e i z size bytes ht hi hz hsize hby hzs hsz _ 0 [] hs hown A k c news hx (hr.below hX) h1 (by unfold maxLen; omega) hbb2 hX.size ?_
  intro v' w' h1 h2 h3
  rw [Nat.zero_add, List.nil_append] at h1
  refine hK v' w' h1 (hX.grown h2 hX.size (fun q hq => (hown.lt q hq).1)) h2.size (fun q hq hb => h2.block q hq (fun e => hb (by simp [Value.ownBlock] at e; omega)))
/-- The second one: of one element. -/
theorem step_second {P : Program} {ops : Array Oper} {o : Oper} {a : Act} {Y wd : World} {K : Act → World → Prop} {Q : Exit → Act → World → Prop} {E : Prop}
    (hg : o.guard = none) (s x : Operand) (t : TypeId) (hop : o.op = Op.call { callee := Callee.builtin Builtin.append, args := #[s, x], argTypes := #[t, t] })
    (e : TypeId) (i : TypeInfo) (z : Value) (size bytes : Nat) (ht : P.underlying t = some (.slice e)) (hi : P.info? e = some i) (hz : i.zero = some z)
    (hsize : i.size = size) (hby : i.bytes = bytes) (hzs : z.cells.size = size) (hsz : 0 < size) (hbb : bytes ≤ 1000)
    (v : Value) (k : Nat) (news us : List Value) (hs : a.eval s = v) (hY : Below wd.heap.size wd Y) (hown : Y.ownsRow wd.heap.size e size v k news)
    (A : Option Addr) (hx : a.eval x = .slice A 1 1) (hr : RdK Y A 1 size us) (h1 : ∀ u ∈ us, u.oneCell' = true) (hk : k ≤ 64)
    (hK : ∀ v' w', w'.ownsRow wd.heap.size e size v' (k + 1) (news ++ us) → Below wd.heap.size wd w' → K (a.put o.dst v') w') :
    if Region.wanted o (yielded ops a.tmps) = true then Oper.wp P o a Y K Q else E := by
  have hbb2 : (k + 1) * bytes ≤ 140737488355328 := Nat.le_trans (Nat.mul_le_mul (show k + 1 ≤ 65 by omega) hbb) (by decide)
  refine step_append_rdk hg s x t hop wd.heap.size e i z size bytes ht hi hz hsize hby hzs hsz v k _ hs hown A 1 1 us hx hr h1 (by unfold maxLen; omega) hbb2 hY.size ?_
  intro v' w' h1 h2 h3
  exact hK v' w' h1 (hY.grown h2 hY.size (fun q hq => (hown.lt q hq).1))
theorem bel1 (w : World) (o : Obj) : Below w.heap.size w ((w.alloc o).drew) := ((Below.refl _ _).alloc (Nat.le_refl _) _).drew
theorem bel2 (w : World) (o p : Obj) : Below w.heap.size w (((w.alloc o).alloc p).drew) := (((Below.refl _ _).alloc (Nat.le_refl _) _).alloc (by simp) _).drew
section
variable (e : TypeId) (k : Nat)
theorem lit1 (w : World) : ((w.alloc (.cells #[] e)).drew).ownsRow w.heap.size e k (.slice (some ⟨w.heap.size, 0, none⟩) 0 0) 0 [] :=
  World.ownsRow_lit w #[] 0 (Nat.le_refl _) (by simp [maxLen]) (by simp)
theorem lit2 (w : World) (p : Obj) : (((w.alloc (.cells #[] e)).alloc p).drew).ownsRow w.heap.size e k (.slice (some ⟨w.heap.size, 0, none⟩) 0 0) 0 [] :=
  own_below' (World.ownsRow_lit w #[] 0 (Nat.le_refl _) (by simp [maxLen]) (by simp)) ((Below.refl _ _).alloc (Nat.le_refl _) p).drew
theorem lit3 (w : World) (p : Obj) : (((w.alloc p).alloc (.cells #[] e)).drew).ownsRow w.heap.size e k (.slice (some ⟨w.heap.size + 1, 0, none⟩) 0 0) 0 [] := by
  have h : w.heap.size + 1 = (w.alloc p).heap.size := by simp
  rw [h]
  exact own_lower' (World.ownsRow_lit (w.alloc p) #[] 0 (Nat.le_refl _) (by simp [maxLen]) (by simp)) (by simp)
end
theorem rdk_row {w : World} {b k : Nat} {e : TypeId} {xs : List Value} (hx : xs.length = k) (h : w.heap[b]? = some (.cells xs.toArray e (0, 0))) : RdK w (some ⟨b, 0, none⟩) 1 k xs := by
  refine ⟨by omega, fun _ => ⟨b, 0, rfl, heap_lt h, fun j u hu => ?_⟩⟩
  rw [Nat.zero_add, cell_of_row _ _ _ _ _ _ h]
  simpa using hu
theorem rdk2 {w w' : World} {o : Obj} {k : Nat} {e : TypeId} {xs : List Value} (hx : xs.length = k) (h : ∀ q, q < (((w.alloc o).alloc (.cells xs.toArray e)).drew).heap.size → q ≠ w.heap.size → w'.heap[q]? = (((w.alloc o).alloc (.cells xs.toArray e)).drew).heap[q]?) : RdK w' (some ⟨w.heap.size + 1, 0, none⟩) 1 k xs := by
  refine rdk_row (e := e) hx ((h _ (by show _ < ((w.alloc o).alloc _).heap.size; simp) (by omega)).trans ?_)
  have := heap_alloc_new (w.alloc o) (.cells xs.toArray e)
  have e : (w.alloc o).heap.size = w.heap.size + 1 := by simp
  rw [e] at this
  exact this
theorem rdk3 {w w' : World} {o : Obj} {k : Nat} {e : TypeId} {xs : List Value} (hx : xs.length = k) (h : ∀ q, q < (((w.alloc (.cells xs.toArray e)).alloc o).drew).heap.size → q ≠ w.heap.size + 1 → w'.heap[q]? = (((w.alloc (.cells xs.toArray e)).alloc o).drew).heap[q]?) : RdK w' (some ⟨w.heap.size, 0, none⟩) 1 k xs := by
  refine rdk_row (e := e) hx ((h _ (by show _ < ((w.alloc _).alloc o).heap.size; simp <;> omega) (by omega)).trans ?_)
  have e2 : w.heap.size < (w.alloc (.cells xs.toArray e)).heap.size := by simp
  exact (Below.heap_alloc (w.alloc (.cells xs.toArray e)) o w.heap.size e2).trans (heap_alloc_new w _)
theorem rdk_lit {k : Nat} (w : World) (e : TypeId) (xs : List Value) (hx : xs.length = k) : RdK (w.alloc (.cells xs.toArray e)) (some ⟨w.heap.size, 0, none⟩) 1 k xs := rdk_row hx (heap_alloc_new w _)
end Go.Proofs.YtdgedclpaplgoaaGreatDoor.flt
namespace Go.Proofs.YtdgedclpaplgoaaGreatDoor.ty
open Go Go.RowKit
set_option linter.unusedVariables false

def Tolerance.cells (x : Tolerance) : List Value := [.string x.key, .bool x.equal, .string x.value, .int .i64 x.effect]
theorem Tolerance.cells_len (x : Tolerance) : x.cells.length = 4 := rfl
theorem Tolerance.cells_one (x : Tolerance) : ∀ u ∈ x.cells, u.oneCell' = true := by intro u hu; simp [Tolerance.cells] at hu; rcases hu with rfl | rfl | rfl | rfl <;> rfl
theorem Tolerance.cells_all (x : Tolerance) : (#[.string x.key, .bool x.equal, .string x.value, .int .i64 x.effect] : Array Value).all (·.oneCell') = true := by simp [Value.oneCell']
theorem rdk_Tolerance {w : World} {f : Nat} {A : Option Addr} {l : List Tolerance} (h : ElsAt Tolerance.row w f A l 4) : RdK w A l.length 4 (l.flatMap Tolerance.cells) ∧ ∀ x ∈ l, x.Wf := flt.rdk_of_els Tolerance.cells_len (by decide) (fun _ _ _ _ h => Tolerance.opened h) h
theorem own_Tolerance {w : World} {B : Nat} {e : TypeId} {v : Value} {l : List Tolerance} (h : w.ownsRow B e 4 v l.length (l.flatMap Tolerance.cells)) (hw : ∀ x ∈ l, x.Wf) : ∃ F, Own w B 2 v (.sl 4 l.length (l.flatMap Tolerance.row)) F ∧ F.Nodup ∧ ∀ x ∈ F, B ≤ x ∧ x < w.heap.size := flt.own_vals Tolerance.row_length (fun _ h => Tolerance.owned h) h hw
instance inhFlTolerance : Inhabited Tolerance := ⟨⟨⟨#[]⟩, false, ⟨#[]⟩, 0⟩⟩
end Go.Proofs.YtdgedclpaplgoaaGreatDoor.ty
