/- Requirements on labels: plain. -/
import Derived.Test.YtjcfaepklakpkaaDoorTyNeed
import Derived.Test.YtjcfaepklakpkaaDoorSortP
namespace Go.Proofs.YtjcfaepklakpkaaDoor.need
open Go Go.RowKit ty lab
set_option linter.unusedVariables false

/-- The first k values are right, in order. -/
def GoodV (l : List ByteArray) (k : Nat) : Prop := ∀ i (h : i < l.length), i < k → ValP l[i] ∧ ∀ m (hm : m + 1 = i), lessB (l[m]'(by omega)) l[i] = true
theorem goodV_next {l : List ByteArray} {k : Nat} (h : GoodV l k) (hk : k < l.length) (h2 : ValP l[k]) (h3 : ∀ m (hm : m + 1 = k), lessB (l[m]'(by omega)) l[k] = true) : GoodV l (k + 1) := fun i hi hik => by
  by_cases e : i = k
  · subst e; exact ⟨h2, h3⟩
  · exact h i hi (by omega)
structure NeedP (x : Need) : Prop where
  key : KeyP x.key
  lo : 1 ≤ x.op
  hi : x.op ≤ 4
  none : 3 ≤ x.op → x.values.length = 0
  some : x.op < 3 → 1 ≤ x.values.length ∧ x.values.length ≤ 4 ∧ GoodV x.values x.values.length
/-- Is the requirement met, given what LabelAt gives. -/
noncomputable def metO (o : Option ByteArray) (x : Need) : Bool := match o with
  | some v => if x.op = 1 then yes (v ∈ x.values) else if x.op = 2 then !yes (v ∈ x.values) else if x.op = 3 then true else false
  | none => if x.op = 1 then false else if x.op = 2 then true else if x.op = 3 then false else true
noncomputable def metF (l : List Label) (x : Need) : Bool := yes (NeedP x) && metO (atF l x.key) x
theorem met_no {l : List Label} {x : Need} (h : ¬ NeedP x) : metF l x = false := by unfold metF; rw [yes_f h]; rfl
theorem met_yes {l : List Label} {x : Need} (h : NeedP x) : metF l x = metO (atF l x.key) x := by unfold metF; rw [yes_t h]; rfl
/-- Values compared. -/
def lessV : List ByteArray → List ByteArray → Bool
  | [], [] => false
  | [], _ :: _ => true
  | _ :: _, [] => false
  | a :: x, b :: y => if a = b then lessV x y else lessB a b
theorem lessV_at : ∀ {a b : List ByteArray} {k : Nat} (h1 : k < a.length) (h2 : k < b.length), (∀ j (hj : j < k), (a[j]'(by omega)) = (b[j]'(by omega))) → a[k] ≠ b[k] → lessV a b = lessB a[k] b[k]
  | [], _, _, h, _, _, _ => by simp at h
  | _ :: _, [], _, _, h, _, _ => by simp at h
  | x :: a, y :: b, 0, _, _, _, hne => by
    rw [lessV, if_neg (by simpa using hne)]; rfl
  | x :: a, y :: b, k + 1, h1, h2, he, hne => by
    have h0 : x = y := he 0 (by omega)
    rw [lessV, if_pos h0]
    exact lessV_at (k := k) (by simpa using h1) (by simpa using h2) (fun j hj => by have := he (j + 1) (by omega); simpa using this) (by simpa using hne)
theorem lessV_end : ∀ {a b : List ByteArray}, (∀ j (h1 : j < a.length) (h2 : j < b.length), a[j] = b[j]) → lessV a b = decide (a.length < b.length)
  | [], [], _ => rfl
  | [], _ :: _, _ => by simp [lessV]
  | _ :: _, [], _ => by simp [lessV]
  | x :: a, y :: b, h => by
    have h0 : x = y := h 0 (by simp) (by simp)
    rw [lessV, if_pos h0, lessV_end (a := a) (b := b) (fun j h1 h2 => by have := h (j + 1) (by simpa using h1) (by simpa using h2); simpa using this)]
    simp
def lessN (a b : Need) : Bool := if a.key = b.key then (if a.op = b.op then lessV a.values b.values else decide (a.op < b.op)) else lessB a.key b.key
theorem lessB_irr (a : ByteArray) : lessB a a = false := less_irr _
theorem lessV_irr : ∀ a : List ByteArray, lessV a a = false
  | [] => rfl
  | a :: x => by rw [lessV, if_pos rfl]; exact lessV_irr x
theorem lessV_total : ∀ a b : List ByteArray, lessV a b = false → lessV b a = false → a = b
  | [], [], _, _ => rfl
  | [], _ :: _, h, _ => by simp [lessV] at h
  | _ :: _, [], _, h => by simp [lessV] at h
  | a :: x, b :: y, h1, h2 => by
    by_cases e : a = b
    · subst e
      rw [lessV, if_pos rfl] at h1 h2
      rw [lessV_total x y h1 h2]
    · rw [lessV, if_neg e] at h1
      rw [lessV, if_neg (fun h => e h.symm)] at h2
      exact absurd (key_same h1 h2) e
theorem lessN_irr (a : Need) : lessN a a = false := by unfold lessN; rw [if_pos rfl, if_pos rfl]; exact lessV_irr _
theorem lessN_total (a b : Need) (h1 : lessN a b = false) (h2 : lessN b a = false) : a = b := by
  unfold lessN at h1 h2
  by_cases ek : a.key = b.key
  · rw [if_pos ek] at h1
    rw [if_pos ek.symm] at h2
    by_cases eo : a.op = b.op
    · rw [if_pos eo] at h1
      rw [if_pos eo.symm] at h2
      have ev := lessV_total _ _ h1 h2
      cases a; cases b
      simp only at ek eo ev
      rw [ek, eo, ev]
    · rw [if_neg eo] at h1
      rw [if_neg (fun h => eo h.symm)] at h2
      simp at h1 h2
      omega
  · rw [if_neg ek] at h1
    rw [if_neg (fun h => ek h.symm)] at h2
    exact absurd (key_same h1 h2) ek
/-- A list of requirements, right as far as k. -/
def GoodN (l : List Need) (k : Nat) : Prop := ∀ i (h : i < l.length), i < k → NeedP l[i] ∧ ∀ m (hm : m + 1 = i), lessN (l[m]'(by omega)) l[i] = true
theorem goodN_next {l : List Need} {k : Nat} (h : GoodN l k) (hk : k < l.length) (h2 : NeedP l[k]) (h3 : ∀ m (hm : m + 1 = k), lessN (l[m]'(by omega)) l[k] = true) : GoodN l (k + 1) := fun i hi hik => by
  by_cases e : i = k
  · subst e; exact ⟨h2, h3⟩
  · exact h i hi (by omega)
def SelP (l : List Need) : Prop := l.length ≤ 4 ∧ GoodN l l.length
noncomputable def selF (l : List Need) (labs : List Label) : Bool := l.all (metF labs)
theorem sel_no {l : List Need} {labs : List Label} {k : Nat} (h : k < l.length) (h2 : metF labs l[k] = false) : selF l labs = false := by
  unfold selF
  cases e : l.all (metF labs) with
  | false => rfl
  | true =>
    have := List.all_eq_true.1 e l[k] (List.getElem_mem h)
    rw [h2] at this; cases this
theorem sel_yes {l : List Need} {labs : List Label} (h : ∀ k (hk : k < l.length), metF labs l[k] = true) : selF l labs = true := by
  unfold selF
  rw [List.all_eq_true]
  intro x hx
  obtain ⟨k, hk, rfl⟩ := List.getElem_of_mem hx
  exact h k hk
/-- Two lists the same, as far as k. -/
def SameTo (a b : List Need) (k : Nat) : Prop := ∀ i (h1 : i < a.length) (h2 : i < b.length), i < k → a[i] = b[i]
def SameNP (a b : List Need) : Prop := a.length = b.length ∧ SameTo a b a.length
theorem sameNP_iff {a b : List Need} : SameNP a b ↔ a = b := by
  constructor
  · rintro ⟨h1, h2⟩
    exact List.ext_getElem h1 fun i i1 i2 => h2 i i1 i2 i1
  · rintro rfl
    exact ⟨rfl, fun i _ _ _ => rfl⟩
/-- What NeedLine gives. -/
def opB (op : Int) : List UInt8 := if op = 1 then [105, 110] else if op = 2 then [110, 111, 116, 105, 110] else if op = 3 then [104, 97, 115] else [104, 97, 115, 110, 111, 116]
def valsB : List ByteArray → List UInt8
  | [] => []
  | [x] => x.data.toList
  | x :: y :: r => x.data.toList ++ 44 :: valsB (y :: r)
theorem valsB_snoc : ∀ (l : List ByteArray) (x : ByteArray), valsB (l ++ [x]) = if l = [] then x.data.toList else valsB l ++ 44 :: x.data.toList
  | [], x => rfl
  | [y], x => by simp [valsB]
  | y :: z :: r, x => by
    have ih := valsB_snoc (z :: r) x
    rw [if_neg (by simp)] at ih ⊢
    show y.data.toList ++ 44 :: valsB ((z :: r) ++ [x]) = _
    rw [ih]
    simp [valsB]
open Classical in
noncomputable def lineN (x : Need) : ByteArray := if NeedP x then ⟨(x.key.data.toList ++ 32 :: opB x.op ++ (if x.values = [] then [] else 32 :: valsB x.values)).toArray⟩ else ⟨#[]⟩
theorem lineN_no {x : Need} (h : ¬ NeedP x) : lineN x = ⟨#[]⟩ := by unfold lineN; rw [if_neg h]
theorem lineN_yes {x : Need} (h : NeedP x) : lineN x = ⟨(x.key.data.toList ++ 32 :: opB x.op ++ (if x.values = [] then [] else 32 :: valsB x.values)).toArray⟩ := by unfold lineN; rw [if_pos h]
/-- Sizes. -/
theorem wt_key (x : Need) : x.key.size ≤ x.wt := by unfold Need.wt; omega
theorem wt_vals (x : Need) : x.values.length ≤ x.wt := by unfold Need.wt; omega
theorem wt_val {x : Need} {k : Nat} (h : k < x.values.length) : x.values[k].size ≤ x.wt := by
  have := wsum_mem Str.wt h
  unfold Str.wt at this
  unfold Need.wt
  have e : wsum Str.wt x.values = wsum (fun s : ByteArray => s.size) x.values := rfl
  omega
end Go.Proofs.YtjcfaepklakpkaaDoor.need
