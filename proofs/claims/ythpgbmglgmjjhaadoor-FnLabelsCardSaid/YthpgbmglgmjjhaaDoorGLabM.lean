/- Merged: LabM LabQ. -/
import Derived.Test.YthpgbmglgmjjhaaDoorWdM
import Derived.Test.YthpgbmglgmjjhaaDoorTyLabel
namespace Go.Proofs.YthpgbmglgmjjhaaDoor.lab
open Go Go.RowKit ty
set_option linter.unusedVariables false

def lessB (a b : ByteArray) : Bool := Op.bytesLess a.toList b.toList
/-- The first k are right, in order. -/
def GoodTo (l : List Label) (k : Nat) : Prop := ∀ i (h : i < l.length), i < k → KeyP l[i].key ∧ ValP l[i].value ∧ (∀ m (hm : m + 1 = i), lessB (l[m]'(by omega)).key l[i].key = true)
def LabelsP (l : List Label) : Prop := l.length ≤ 6 ∧ GoodTo l l.length
theorem good_next {l : List Label} {k : Nat} (h : GoodTo l k) (hk : k < l.length) (h1 : KeyP l[k].key) (h2 : ValP l[k].value) (h3 : ∀ m (hm : m + 1 = k), lessB (l[m]'(by omega)).key l[k].key = true) : GoodTo l (k + 1) := fun i hi hik => by
  by_cases e : i = k
  · subst e; exact ⟨h1, h2, h3⟩
  · exact h i hi (by omega)
theorem good_at {l : List Label} (h : GoodTo l l.length) {k : Nat} (hk : k < l.length) : KeyP l[k].key ∧ ValP l[k].value ∧ (∀ m (hm : m + 1 = k), lessB (l[m]'(by omega)).key l[k].key = true) := h k hk hk
/-- The texts of a list are no longer than so. -/
def Small (l : List Label) : Prop := ∀ x ∈ l, x.key.size ≤ 1048576 ∧ x.value.size ≤ 1048576
theorem small_of {l : List Label} (h : wsum Label.wt l ≤ 1048576) : Small l := fun x hx => by
  obtain ⟨i, hi, rfl⟩ := List.getElem_of_mem hx
  have h1 := wsum_mem Label.wt hi
  unfold Label.wt at h1 h
  omega
/-- The value of the first label with a key. -/
def atF : List Label → ByteArray → Option ByteArray
  | [], _ => none
  | x :: r, key => if x.key = key then some x.value else atF r key
theorem atF_none {l : List Label} {key : ByteArray} (h : ∀ x ∈ l, x.key ≠ key) : atF l key = none := by
  induction l with
  | nil => rfl
  | cons a r ih => rw [atF, if_neg (h a List.mem_cons_self)]; exact ih fun x hx => h x (List.mem_cons_of_mem _ hx)
theorem atF_some {l : List Label} {key : ByteArray} {k : Nat} (hk : k < l.length) (h1 : ∀ j (hj : j < k), (l[j]'(by omega)).key ≠ key) (h2 : l[k].key = key) : atF l key = some l[k].value := by
  induction l generalizing k with
  | nil => simp at hk
  | cons a r ih =>
    cases k with
    | zero => rw [atF]; exact if_pos h2
    | succ k =>
      have h0 : a.key ≠ key := h1 0 (by omega)
      rw [atF, if_neg h0]
      exact ih (k := k) (by simpa using hk) (fun j hj => h1 (j + 1) (by omega)) h2
/-- What LabelsLine gives. -/
def pairB (x : Label) : List UInt8 := x.key.data.toList ++ 61 :: x.value.data.toList
def joinB : List Label → List UInt8
  | [] => []
  | [x] => pairB x
  | x :: y :: r => pairB x ++ 44 :: joinB (y :: r)
theorem joinB_snoc : ∀ (l : List Label) (x : Label), joinB (l ++ [x]) = if l = [] then pairB x else joinB l ++ 44 :: pairB x
  | [], x => rfl
  | [y], x => by simp [joinB]
  | y :: z :: r, x => by
    have ih := joinB_snoc (z :: r) x
    rw [if_neg (by simp)] at ih ⊢
    show pairB y ++ 44 :: joinB ((z :: r) ++ [x]) = _
    rw [ih]
    simp [joinB]
open Classical in
noncomputable def lineF (l : List Label) : ByteArray := if LabelsP l then (if l = [] then ⟨#[45]⟩ else ⟨(joinB l).toArray⟩) else ⟨#[]⟩
theorem line_no {l : List Label} (h : ¬ LabelsP l) : lineF l = ⟨#[]⟩ := by unfold lineF; rw [if_neg h]
theorem line_nil : LabelsP [] → lineF [] = ⟨#[45]⟩ := fun h => by unfold lineF; rw [if_pos h, if_pos rfl]
theorem line_yes {l : List Label} (h : LabelsP l) (h2 : l ≠ []) : lineF l = ⟨(joinB l).toArray⟩ := by unfold lineF; rw [if_pos h, if_neg h2]
/-- In order by insertion: behind equal keys. -/
def ins (x : Label) (l : List Label) : List Label := l.takeWhile (fun y => !lessB x.key y.key) ++ x :: l.dropWhile (fun y => !lessB x.key y.key)
def sorted (l : List Label) : List Label := l.foldl (fun a x => ins x a) []
theorem ins_length (x : Label) (l : List Label) : (ins x l).length = l.length + 1 := by
  unfold ins
  have h := congrArg List.length (List.takeWhile_append_dropWhile (p := fun y => !lessB x.key y.key) (l := l))
  rw [List.length_append] at h ⊢
  rw [List.length_cons]
  omega
theorem sorted_snoc (l : List Label) (x : Label) : sorted (l ++ [x]) = ins x (sorted l) := by unfold sorted; rw [List.foldl_append]; rfl
theorem sorted_length (l : List Label) : (sorted l).length = l.length := by
  have h : ∀ (l acc : List Label), (l.foldl (fun a x => ins x a) acc).length = acc.length + l.length := by
    intro l
    induction l with
    | nil => intro acc; simp
    | cons a r ih => intro acc; rw [List.foldl_cons, ih, ins_length, List.length_cons]; omega
  have := h l []
  simpa [sorted] using this
theorem ins_mem {x : Label} {l : List Label} {y : Label} (h : y ∈ ins x l) : y = x ∨ y ∈ l := by
  unfold ins at h
  rcases List.mem_append.1 h with h | h
  · exact .inr ((List.takeWhile_sublist _).subset h)
  · rcases List.mem_cons.1 h with h | h
    · exact .inl h
    · exact .inr ((List.dropWhile_suffix _).subset h)
theorem sorted_mem : ∀ (l acc : List Label) {y : Label}, y ∈ l.foldl (fun a x => ins x a) acc → y ∈ l ∨ y ∈ acc
  | [], acc, y, h => .inr h
  | a :: r, acc, y, h => by
    rw [List.foldl_cons] at h
    rcases sorted_mem r (ins a acc) h with h | h
    · exact .inl (List.mem_cons_of_mem _ h)
    · rcases ins_mem h with rfl | h
      · exact .inl List.mem_cons_self
      · exact .inr h
theorem small_sorted {l : List Label} (h : Small l) : Small (sorted l) := fun x hx => by
  rcases sorted_mem l [] hx with h1 | h1
  · exact h x h1
  · cases h1
open Classical in
noncomputable def sortF (l : List Label) : List Label × Bool := if l.length ≤ 6 ∧ LabelsP (sorted l) then (sorted l, true) else (l, false)
theorem sort_no {l : List Label} (h : ¬ (l.length ≤ 6 ∧ LabelsP (sorted l))) : sortF l = (l, false) := by unfold sortF; rw [if_neg h]
theorem sort_yes {l : List Label} (h1 : l.length ≤ 6) (h : LabelsP (sorted l)) : sortF l = (sorted l, true) := by unfold sortF; rw [if_pos ⟨h1, h⟩]
end Go.Proofs.YthpgbmglgmjjhaaDoor.lab
namespace Go.Proofs.YthpgbmglgmjjhaaDoor.lab
open Go Go.RowKit ty
set_option linter.unusedVariables false

theorem same_yes {a b : ByteArray} (h : a = b) : (a.toList == b.toList) = true := by subst h; simp
theorem same_no {a b : ByteArray} (h : ¬ a = b) : (a.toList == b.toList) = false := by
  rw [beq_eq_false_iff_ne, ByteArray.toList_eq, ByteArray.toList_eq]
  exact fun e => h (by apply ByteArray.ext; exact Array.ext' e)
def twoS (o : Option ByteArray) : Value := match o with
  | some y => .tuple #[.string y, .bool true]
  | none => .tuple #[.string ⟨#[]⟩, .bool false]
theorem at_none' {l : List Label} {key : ByteArray} (h : ∀ j (hj : j < l.length), l[j].key ≠ key) : atF l key = none :=
  atF_none fun x hx => by
    obtain ⟨i, hi, rfl⟩ := List.getElem_of_mem hx
    exact h i hi
/-- Two lists the same, as far as k. -/
def SameTo (a b : List Label) (k : Nat) : Prop := ∀ i (h1 : i < a.length) (h2 : i < b.length), i < k → a[i].key = b[i].key ∧ a[i].value = b[i].value
def SameP (a b : List Label) : Prop := a.length = b.length ∧ SameTo a b a.length
theorem sameP_iff {a b : List Label} : SameP a b ↔ a = b := by
  constructor
  · rintro ⟨h1, h2⟩
    refine List.ext_getElem h1 fun i i1 i2 => ?_
    obtain ⟨e1, e2⟩ := h2 i i1 i2 i1
    cases hx : a[i]
    cases hy : b[i]
    rw [hx, hy] at e1 e2
    simp only at e1 e2
    rw [e1, e2]
  · rintro rfl
    exact ⟨rfl, fun i _ _ _ => ⟨rfl, rfl⟩⟩
end Go.Proofs.YthpgbmglgmjjhaaDoor.lab
