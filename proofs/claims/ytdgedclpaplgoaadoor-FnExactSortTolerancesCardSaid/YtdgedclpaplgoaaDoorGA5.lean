/- Merged: TyLabel LabM LabQ LawL TyTaint TyTolerance RdLM LinP RdBack SortP. -/
import Derived.Test.YtdgedclpaplgoaaDoorGA4
import Derived.Test.YtdgedclpaplgoaaDoorGA0
import Derived.ProofKit
import Derived.Test.YtdgedclpaplgoaaDoorGA1
namespace Go.Proofs.YtdgedclpaplgoaaDoor.ty
open Go Go.RowKit
set_option linter.unusedVariables false

structure Label where
  key : ByteArray
  value : ByteArray
namespace Label
def row (x : Label) : List C := [.str x.key, .str x.value]
theorem row_length (x : Label) : x.row.length = 2 := rfl
def wt (x : Label) : Nat := x.key.size + x.value.size
def cost (_ : Label) : Nat := 2
def mark (_ : Label) (k : Int) : Label := ⟨(lawMark.mt k), (lawMark.mt (k + 1))⟩
def Wf (x : Label) : Prop := x.key.size ≤ maxLen ∧ x.value.size ≤ maxLen
theorem opened {w : World} {f : Nat} {us : List Value} {x : Label} (h : LiesS w f us x.row) : us = [.string x.key, .string x.value] ∧ x.Wf := by
  obtain ⟨v0, _, rfl, l0, h⟩ := h.uncons
  obtain ⟨v1, _, rfl, l1, h⟩ := h.uncons
  obtain rfl := h.unnil
  obtain ⟨rfl, w0⟩ := l0.str
  obtain ⟨rfl, w1⟩ := l1.str
  exact ⟨rfl, w0, w1⟩
theorem owned {w : World} {B f : Nat} {x : Label} (h : x.Wf) : OwnS w B (f + 1) [.string x.key, .string x.value] x.row [] := by
  obtain ⟨w0, w1⟩ := h
  exact OwnS.cons (own_str w0) (OwnS.cons (own_str w1) (OwnS.nil))
theorem lies {w : World} {f : Nat} {x : Label} (h : x.Wf) : LiesS w (f + 1) [.string x.key, .string x.value] x.row := (owned (B := 0) h).lies
theorem flat_of {w : World} {B f : Nat} {us : List Value} {x : Label} {F : List Nat} (h : OwnS w B f us x.row F) : F = [] := by
  obtain ⟨v0, _, G0, _, rfl, rfl, l0, h⟩ := h.uncons
  obtain ⟨v1, _, G1, _, rfl, rfl, l1, h⟩ := h.uncons
  obtain ⟨rfl, rfl⟩ := h.unnil
  obtain rfl := l0.flat trivial
  obtain rfl := l1.flat trivial
  rfl
end Label
theorem of_Label {α : Type} {vs : List α} (h : vs.length = 2) : ∃ u0 u1, vs = [u0, u1] := by
  match vs, h with
  | [u0, u1], _ => exact ⟨u0, u1, rfl⟩
end Go.Proofs.YtdgedclpaplgoaaDoor.ty
namespace Go.Proofs.YtdgedclpaplgoaaDoor.lab
open Go Go.RowKit ty
set_option linter.unusedVariables false

def lessB (a b : ByteArray) : Bool := Op.bytesLess a.toList b.toList
/-- The first k are right, in order. -/
def GoodTo (l : List Label) (k : Nat) : Prop := ∀ i (h : i < l.length), i < k → KeyP l[i].key ∧ ValP l[i].value ∧ (∀ m (hm : m + 1 = i), lessB (l[m]'(by omega)).key l[i].key = true)
def LabelsP (l : List Label) : Prop := l.length ≤ 6 ∧ GoodTo l l.length
theorem good_next {l : List Label} {k : Nat} (h : GoodTo l k) (hk : k < l.length) (h1 : KeyP l[k].key) (h2 : ValP l[k].value) (h3 : ∀ m (hm : m + 1 = k), lessB (l[m]'(by omega)).key l[k].key = true) : GoodTo l (k + 1) := fun i hi hik => by
  by_cases e : i = k
  · subst e; exact ⟨h1, h2, h3⟩
  · exact h i hi (by omega)
theorem good_at {l : List Label} (h : GoodTo l l.length) {k : Nat} (hk : k < l.length) : KeyP l[k].key ∧ ValP l[k].value ∧ (∀ m (hm : m + 1 = k), lessB (l[m]'(by omega)).key l[k].key = true) := h k hk hk
/-- The texts of a list are no longer than so. -/
def Small (l : List Label) : Prop := ∀ x ∈ l, x.key.size ≤ 1048576 ∧ x.value.size ≤ 1048576
theorem small_of {l : List Label} (h : wsum Label.wt l ≤ 1048576) : Small l := fun x hx => by
  obtain ⟨i, hi, rfl⟩ := List.getElem_of_mem hx
  have h1 := wsum_mem Label.wt hi
  unfold Label.wt at h1 h
  omega
/-- The value of the first label with a key. -/
def atF : List Label → ByteArray → Option ByteArray
  | [], _ => none
  | x :: r, key => if x.key = key then some x.value else atF r key
theorem atF_none {l : List Label} {key : ByteArray} (h : ∀ x ∈ l, x.key ≠ key) : atF l key = none := by
  induction l with
  | nil => rfl
  | cons a r ih => rw [atF, if_neg (h a List.mem_cons_self)]; exact ih fun x hx => h x (List.mem_cons_of_mem _ hx)
theorem atF_some {l : List Label} {key : ByteArray} {k : Nat} (hk : k < l.length) (h1 : ∀ j (hj : j < k), (l[j]'(by omega)).key ≠ key) (h2 : l[k].key = key) : atF l key = some l[k].value := by
  induction l generalizing k with
  | nil => simp at hk
  | cons a r ih =>
    cases k with
    | zero => rw [atF]; exact if_pos h2
    | succ k =>
      have h0 : a.key ≠ key := h1 0 (by omega)
      rw [atF, if_neg h0]
      exact ih (k := k) (by simpa using hk) (fun j hj => h1 (j + 1) (by omega)) h2
/-- What LabelsLine gives. -/
def pairB (x : Label) : List UInt8 := x.key.data.toList ++ 61 :: x.value.data.toList
def joinB : List Label → List UInt8
  | [] => []
  | [x] => pairB x
  | x :: y :: r => pairB x ++ 44 :: joinB (y :: r)
theorem joinB_snoc : ∀ (l : List Label) (x : Label), joinB (l ++ [x]) = if l = [] then pairB x else joinB l ++ 44 :: pairB x
  | [], x => rfl
  | [y], x => by simp [joinB]
  | y :: z :: r, x => by
    have ih := joinB_snoc (z :: r) x
    rw [if_neg (by simp)] at ih ⊢
    show pairB y ++ 44 :: joinB ((z :: r) ++ [x]) = _
    rw [ih]
    simp [joinB]
open Classical in
noncomputable def lineF (l : List Label) : ByteArray := if LabelsP l then (if l = [] then ⟨#[45]⟩ else ⟨(joinB l).toArray⟩) else ⟨#[]⟩
theorem line_no {l : List Label} (h : ¬ LabelsP l) : lineF l = ⟨#[]⟩ := by unfold lineF; rw [if_neg h]
theorem line_nil : LabelsP [] → lineF [] = ⟨#[45]⟩ := fun h => by unfold lineF; rw [if_pos h, if_pos rfl]
theorem line_yes {l : List Label} (h : LabelsP l) (h2 : l ≠ []) : lineF l = ⟨(joinB l).toArray⟩ := by unfold lineF; rw [if_pos h, if_neg h2]
/-- In order by insertion: behind equal keys. -/
def ins (x : Label) (l : List Label) : List Label := l.takeWhile (fun y => !lessB x.key y.key) ++ x :: l.dropWhile (fun y => !lessB x.key y.key)
def sorted (l : List Label) : List Label := l.foldl (fun a x => ins x a) []
theorem ins_length (x : Label) (l : List Label) : (ins x l).length = l.length + 1 := by
  unfold ins
  have h := congrArg List.length (List.takeWhile_append_dropWhile (p := fun y => !lessB x.key y.key) (l := l))
  rw [List.length_append] at h ⊢
  rw [List.length_cons]
  omega
theorem sorted_snoc (l : List Label) (x : Label) : sorted (l ++ [x]) = ins x (sorted l) := by unfold sorted; rw [List.foldl_append]; rfl
theorem sorted_length (l : List Label) : (sorted l).length = l.length := by
  have h : ∀ (l acc : List Label), (l.foldl (fun a x => ins x a) acc).length = acc.length + l.length := by
    intro l
    induction l with
    | nil => intro acc; simp
    | cons a r ih => intro acc; rw [List.foldl_cons, ih, ins_length, List.length_cons]; omega
  have := h l []
  simpa [sorted] using this
theorem ins_mem {x : Label} {l : List Label} {y : Label} (h : y ∈ ins x l) : y = x ∨ y ∈ l := by
  unfold ins at h
  rcases List.mem_append.1 h with h | h
  · exact .inr ((List.takeWhile_sublist _).subset h)
  · rcases List.mem_cons.1 h with h | h
    · exact .inl h
    · exact .inr ((List.dropWhile_suffix _).subset h)
theorem sorted_mem : ∀ (l acc : List Label) {y : Label}, y ∈ l.foldl (fun a x => ins x a) acc → y ∈ l ∨ y ∈ acc
  | [], acc, y, h => .inr h
  | a :: r, acc, y, h => by
    rw [List.foldl_cons] at h
    rcases sorted_mem r (ins a acc) h with h | h
    · exact .inl (List.mem_cons_of_mem _ h)
    · rcases ins_mem h with rfl | h
      · exact .inl List.mem_cons_self
      · exact .inr h
theorem small_sorted {l : List Label} (h : Small l) : Small (sorted l) := fun x hx => by
  rcases sorted_mem l [] hx with h1 | h1
  · exact h x h1
  · cases h1
open Classical in
noncomputable def sortF (l : List Label) : List Label × Bool := if l.length ≤ 6 ∧ LabelsP (sorted l) then (sorted l, true) else (l, false)
theorem sort_no {l : List Label} (h : ¬ (l.length ≤ 6 ∧ LabelsP (sorted l))) : sortF l = (l, false) := by unfold sortF; rw [if_neg h]
theorem sort_yes {l : List Label} (h1 : l.length ≤ 6) (h : LabelsP (sorted l)) : sortF l = (sorted l, true) := by unfold sortF; rw [if_pos ⟨h1, h⟩]
end Go.Proofs.YtdgedclpaplgoaaDoor.lab
namespace Go.Proofs.YtdgedclpaplgoaaDoor.lab
open Go Go.RowKit ty
set_option linter.unusedVariables false

theorem same_yes {a b : ByteArray} (h : a = b) : (a.toList == b.toList) = true := by subst h; simp
theorem same_no {a b : ByteArray} (h : ¬ a = b) : (a.toList == b.toList) = false := by
  rw [beq_eq_false_iff_ne, ByteArray.toList_eq, ByteArray.toList_eq]
  exact fun e => h (by apply ByteArray.ext; exact Array.ext' e)
def twoS (o : Option ByteArray) : Value := match o with
  | some y => .tuple #[.string y, .bool true]
  | none => .tuple #[.string ⟨#[]⟩, .bool false]
theorem at_none' {l : List Label} {key : ByteArray} (h : ∀ j (hj : j < l.length), l[j].key ≠ key) : atF l key = none :=
  atF_none fun x hx => by
    obtain ⟨i, hi, rfl⟩ := List.getElem_of_mem hx
    exact h i hi
/-- Two lists the same, as far as k. -/
def SameTo (a b : List Label) (k : Nat) : Prop := ∀ i (h1 : i < a.length) (h2 : i < b.length), i < k → a[i].key = b[i].key ∧ a[i].value = b[i].value
def SameP (a b : List Label) : Prop := a.length = b.length ∧ SameTo a b a.length
theorem sameP_iff {a b : List Label} : SameP a b ↔ a = b := by
  constructor
  · rintro ⟨h1, h2⟩
    refine List.ext_getElem h1 fun i i1 i2 => ?_
    obtain ⟨e1, e2⟩ := h2 i i1 i2 i1
    cases hx : a[i]
    cases hy : b[i]
    rw [hx, hy] at e1 e2
    simp only at e1 e2
    rw [e1, e2]
  · rintro rfl
    exact ⟨rfl, fun i _ _ _ => ⟨rfl, rfl⟩⟩
end Go.Proofs.YtdgedclpaplgoaaDoor.lab
namespace Go.Proofs.YtdgedclpaplgoaaDoor
open Go Go.RowKit
set_option linter.unusedVariables false

theorem drew_below {P : Program} {f : FuncId} {args : Array Value} {w : World} {E : Ending}
    (h : Calls P f args w fun e w' => e = E ∧ ∃ n, w' = w.drewN n) : Calls P f args w fun e w' => e = E ∧ Below w.heap.size w w' :=
  h.mono fun _ _ ⟨he, n, hn⟩ => ⟨he, by rw [hn]; exact below_drewN (Below.refl _ _) n⟩
/-- A slice of structs and a truth, handed back in memory of the call's own. -/
def ListOut {α : Type} (w w' : World) (e : Ending) (sz : Nat) (row : α → List C) (r : List α × Bool) : Prop :=
  ∃ v f F, e = .returned (.tuple #[v, .bool r.2]) ∧ Own w' w.heap.size (f + 1) v (.sl sz r.1.length (r.1.flatMap row)) F ∧ F.Nodup ∧ Below w.heap.size w w'
theorem wsum_le {α : Type} {f : α → Nat} {c : Nat} (h : ∀ x, f x ≤ c) (l : List α) : wsum f l ≤ c * l.length := by
  induction l with
  | nil => exact Nat.zero_le _
  | cons a r ih => have := h a; rw [List.length_cons, Nat.mul_add, Nat.mul_one]; show f a + wsum f r ≤ _; omega
theorem ty.Label.cost_le (l : List ty.Label) : wsum ty.Label.cost l ≤ 2 * l.length := wsum_le (fun _ => Nat.le_refl _) l
namespace lab
theorem sort_len {l : List ty.Label} (h : l.length ≤ 1048576) : (sortF l).1.length ≤ 1048576 := by
  unfold sortF
  split
  · rw [sorted_length]; exact h
  · exact h
theorem twoS_is (o : Option ByteArray) : ∃ s b, twoS o = .tuple #[.string s, .bool b] := by
  cases o with
  | none => exact ⟨_, _, rfl⟩
  | some y => exact ⟨_, _, rfl⟩
end lab
end Go.Proofs.YtdgedclpaplgoaaDoor
namespace Go.Proofs.YtdgedclpaplgoaaDoor.ty
open Go Go.RowKit
set_option linter.unusedVariables false

structure Taint where
  key : ByteArray
  value : ByteArray
  effect : Int
namespace Taint
def row (x : Taint) : List C := [.str x.key, .str x.value, .int .i64 x.effect]
theorem row_length (x : Taint) : x.row.length = 3 := rfl
def wt (x : Taint) : Nat := x.key.size + x.value.size
def cost (_ : Taint) : Nat := 3
def mark (_ : Taint) (k : Int) : Taint := ⟨(lawMark.mt k), (lawMark.mt (k + 1)), (k + 2)⟩
def Wf (x : Taint) : Prop := x.key.size ≤ maxLen ∧ x.value.size ≤ maxLen ∧ (Lit.int .i64 x.effect).wf = true
theorem opened {w : World} {f : Nat} {us : List Value} {x : Taint} (h : LiesS w f us x.row) : us = [.string x.key, .string x.value, .int .i64 x.effect] ∧ x.Wf := by
  obtain ⟨v0, _, rfl, l0, h⟩ := h.uncons
  obtain ⟨v1, _, rfl, l1, h⟩ := h.uncons
  obtain ⟨v2, _, rfl, l2, h⟩ := h.uncons
  obtain rfl := h.unnil
  obtain ⟨rfl, w0⟩ := l0.str
  obtain ⟨rfl, w1⟩ := l1.str
  obtain ⟨rfl, w2⟩ := l2.int
  exact ⟨rfl, w0, w1, w2⟩
theorem owned {w : World} {B f : Nat} {x : Taint} (h : x.Wf) : OwnS w B (f + 1) [.string x.key, .string x.value, .int .i64 x.effect] x.row [] := by
  obtain ⟨w0, w1, w2⟩ := h
  exact OwnS.cons (own_str w0) (OwnS.cons (own_str w1) (OwnS.cons (own_int w2) (OwnS.nil)))
theorem lies {w : World} {f : Nat} {x : Taint} (h : x.Wf) : LiesS w (f + 1) [.string x.key, .string x.value, .int .i64 x.effect] x.row := (owned (B := 0) h).lies
theorem flat_of {w : World} {B f : Nat} {us : List Value} {x : Taint} {F : List Nat} (h : OwnS w B f us x.row F) : F = [] := by
  obtain ⟨v0, _, G0, _, rfl, rfl, l0, h⟩ := h.uncons
  obtain ⟨v1, _, G1, _, rfl, rfl, l1, h⟩ := h.uncons
  obtain ⟨v2, _, G2, _, rfl, rfl, l2, h⟩ := h.uncons
  obtain ⟨rfl, rfl⟩ := h.unnil
  obtain rfl := l0.flat trivial
  obtain rfl := l1.flat trivial
  obtain rfl := l2.flat trivial
  rfl
end Taint
theorem of_Taint {α : Type} {vs : List α} (h : vs.length = 3) : ∃ u0 u1 u2, vs = [u0, u1, u2] := by
  match vs, h with
  | [u0, u1, u2], _ => exact ⟨u0, u1, u2, rfl⟩
end Go.Proofs.YtdgedclpaplgoaaDoor.ty
namespace Go.Proofs.YtdgedclpaplgoaaDoor.ty
open Go Go.RowKit
set_option linter.unusedVariables false

structure Tolerance where
  key : ByteArray
  equal : Bool
  value : ByteArray
  effect : Int
namespace Tolerance
def row (x : Tolerance) : List C := [.str x.key, .bool x.equal, .str x.value, .int .i64 x.effect]
theorem row_length (x : Tolerance) : x.row.length = 4 := rfl
def wt (x : Tolerance) : Nat := x.key.size + x.value.size
def cost (_ : Tolerance) : Nat := 4
def mark (_ : Tolerance) (k : Int) : Tolerance := ⟨(lawMark.mt k), (decide ((k + 1) % 3 = 0)), (lawMark.mt (k + 2)), (k + 3)⟩
def Wf (x : Tolerance) : Prop := x.key.size ≤ maxLen ∧ x.value.size ≤ maxLen ∧ (Lit.int .i64 x.effect).wf = true
theorem opened {w : World} {f : Nat} {us : List Value} {x : Tolerance} (h : LiesS w f us x.row) : us = [.string x.key, .bool x.equal, .string x.value, .int .i64 x.effect] ∧ x.Wf := by
  obtain ⟨v0, _, rfl, l0, h⟩ := h.uncons
  obtain ⟨v1, _, rfl, l1, h⟩ := h.uncons
  obtain ⟨v2, _, rfl, l2, h⟩ := h.uncons
  obtain ⟨v3, _, rfl, l3, h⟩ := h.uncons
  obtain rfl := h.unnil
  obtain ⟨rfl, w0⟩ := l0.str
  obtain rfl := l1.bool
  obtain ⟨rfl, w2⟩ := l2.str
  obtain ⟨rfl, w3⟩ := l3.int
  exact ⟨rfl, w0, w2, w3⟩
theorem owned {w : World} {B f : Nat} {x : Tolerance} (h : x.Wf) : OwnS w B (f + 1) [.string x.key, .bool x.equal, .string x.value, .int .i64 x.effect] x.row [] := by
  obtain ⟨w0, w2, w3⟩ := h
  exact OwnS.cons (own_str w0) (OwnS.cons own_bool (OwnS.cons (own_str w2) (OwnS.cons (own_int w3) (OwnS.nil))))
theorem lies {w : World} {f : Nat} {x : Tolerance} (h : x.Wf) : LiesS w (f + 1) [.string x.key, .bool x.equal, .string x.value, .int .i64 x.effect] x.row := (owned (B := 0) h).lies
theorem flat_of {w : World} {B f : Nat} {us : List Value} {x : Tolerance} {F : List Nat} (h : OwnS w B f us x.row F) : F = [] := by
  obtain ⟨v0, _, G0, _, rfl, rfl, l0, h⟩ := h.uncons
  obtain ⟨v1, _, G1, _, rfl, rfl, l1, h⟩ := h.uncons
  obtain ⟨v2, _, G2, _, rfl, rfl, l2, h⟩ := h.uncons
  obtain ⟨v3, _, G3, _, rfl, rfl, l3, h⟩ := h.uncons
  obtain ⟨rfl, rfl⟩ := h.unnil
  obtain rfl := l0.flat trivial
  obtain rfl := l1.flat trivial
  obtain rfl := l2.flat trivial
  obtain rfl := l3.flat trivial
  rfl
end Tolerance
theorem of_Tolerance {α : Type} {vs : List α} (h : vs.length = 4) : ∃ u0 u1 u2 u3, vs = [u0, u1, u2, u3] := by
  match vs, h with
  | [u0, u1, u2, u3], _ => exact ⟨u0, u1, u2, u3, rfl⟩
end Go.Proofs.YtdgedclpaplgoaaDoor.ty
namespace Go.Proofs.YtdgedclpaplgoaaDoor.lab
open Go Go.RowKit ty cut
set_option linter.unusedVariables false

theorem cut_pos (s : ByteArray) (c : Int) : 0 < (cutF s c).length := by
  unfold cutF
  simp only [cs, true_or, if_true]
  simp
def pairF (p : ByteArray) : Option Label := match cutF p 61 with
  | [a, b] => some ⟨a, b⟩
  | _ => none
theorem pair_no {p : ByteArray} (h : (cutF p 61).length ≠ 2) : pairF p = none := by
  unfold pairF
  split
  · next a b e => rw [e] at h; exact absurd rfl h
  · rfl
theorem pair_yes {p a b : ByteArray} (h : cutF p 61 = [a, b]) : pairF p = some ⟨a, b⟩ := by unfold pairF; rw [h]
def pairs : List ByteArray → Option (List Label)
  | [] => some []
  | p :: r => match pairF p, pairs r with
    | some x, some l => some (x :: l)
    | _, _ => none
theorem pairs_snoc : ∀ (a : List ByteArray) (p : ByteArray) (l : List Label) (x : Label), pairs a = some l → pairF p = some x → pairs (a ++ [p]) = some (l ++ [x])
  | [], p, l, x, h, hx => by
    simp [pairs] at h
    subst h
    simp [pairs, hx]
  | q :: r, p, l, x, h, hx => by
    rw [List.cons_append, pairs]
    rw [pairs] at h
    cases hq : pairF q with
    | none => rw [hq] at h; simp at h
    | some y =>
      cases hr : pairs r with
      | none => rw [hq, hr] at h; simp at h
      | some m =>
        rw [hq, hr] at h
        simp at h
        subst h
        rw [pairs_snoc r p m x hr hx]
        simp
theorem pairs_dead : ∀ (a : List ByteArray) (p : ByteArray), p ∈ a → pairF p = none → pairs a = none
  | [], p, h, _ => by cases h
  | q :: r, p, h, hx => by
    rw [pairs]
    rcases List.mem_cons.1 h with rfl | h
    · rw [hx]
    · rw [pairs_dead r p h hx]
      cases pairF q <;> rfl
theorem pairs_sizes : ∀ (a : List ByteArray) (l : List Label) (m : Nat), (∀ p ∈ a, p.size ≤ m) → pairs a = some l → (∀ x ∈ l, x.key.size ≤ m ∧ x.value.size ≤ m) ∧ l.length = a.length
  | [], l, m, h, hl => by
    simp [pairs] at hl
    subst hl
    exact ⟨(by intro x hx; cases hx), rfl⟩
  | q :: r, l, m, h, hl => by
    rw [pairs] at hl
    cases hq : pairF q with
    | none => rw [hq] at hl; simp at hl
    | some y =>
      cases hr : pairs r with
      | none => rw [hq, hr] at hl; simp at hl
      | some k =>
        rw [hq, hr] at hl
        simp at hl
        subst hl
        obtain ⟨h1, h2⟩ := pairs_sizes r k m (fun p hp => h p (List.mem_cons_of_mem _ hp)) hr
        refine ⟨fun x hx => ?_, by simp [h2]⟩
        rcases List.mem_cons.1 hx with rfl | hx
        · have hqs := h q List.mem_cons_self
          unfold pairF at hq
          split at hq
          · next a b e =>
            injection hq with hq
            subst hq
            have h3 := cut_sizes q 61
            rw [e] at h3
            have h4 := h3 a List.mem_cons_self
            have h5 := h3 b (List.mem_cons_of_mem _ List.mem_cons_self)
            exact ⟨Nat.le_trans h4 hqs, Nat.le_trans h5 hqs⟩
          · cases hq
        · exact h1 x hx
open Classical in
noncomputable def readF (s : ByteArray) : List Label × Bool :=
  if s = ⟨#[45]⟩ then ([], true) else if 400 < s.size then ([], false) else match pairs (cutF s 44) with
    | some l => if LabelsP l then (l, true) else ([], false)
    | none => ([], false)
theorem read_dash : readF ⟨#[45]⟩ = ([], true) := by unfold readF; rw [if_pos rfl]
theorem read_long {s : ByteArray} (h : s ≠ ⟨#[45]⟩) (h2 : 400 < s.size) : readF s = ([], false) := by unfold readF; rw [if_neg h, if_pos h2]
theorem read_none {s : ByteArray} (h : s ≠ ⟨#[45]⟩) (h2 : ¬ 400 < s.size) (h3 : pairs (cutF s 44) = none) : readF s = ([], false) := by unfold readF; rw [if_neg h, if_neg h2, h3]
theorem read_bad {s : ByteArray} {l : List Label} (h : s ≠ ⟨#[45]⟩) (h2 : ¬ 400 < s.size) (h3 : pairs (cutF s 44) = some l) (h4 : ¬ LabelsP l) : readF s = ([], false) := by unfold readF; rw [if_neg h, if_neg h2, h3]; simp only; rw [if_neg h4]
theorem read_good {s : ByteArray} {l : List Label} (h : s ≠ ⟨#[45]⟩) (h2 : ¬ 400 < s.size) (h3 : pairs (cutF s 44) = some l) (h4 : LabelsP l) : readF s = (l, true) := by unfold readF; rw [if_neg h, if_neg h2, h3]; simp only; rw [if_pos h4]
theorem read_len (s : ByteArray) : (readF s).1.length ≤ 1048576 := by
  unfold readF
  split
  · simp
  · split
    · simp
    · split
      · split
        · next h => have := h.1; show _ ≤ _; simp only; omega
        · simp
      · simp
end Go.Proofs.YtdgedclpaplgoaaDoor.lab
namespace Go.Proofs.YtdgedclpaplgoaaDoor.lab
open Go Go.RowKit ty
set_option linter.unusedVariables false

theorem cat_toList (a b : ByteArray) : (a ++ b).data.toList = a.data.toList ++ b.data.toList := by simp
theorem size_len (a : ByteArray) : a.data.toList.length = a.size := by rw [Array.length_toList]; rfl
theorem parts_len (a b c d : ByteArray) : b.size + d.size ≤ ((((a ++ b) ++ c) ++ d).data.toList).length := by
  simp only [cat_toList, List.length_append, ByteArray.size, Array.length_toList]
  omega
/-- One label more. -/
theorem line_more {l : List Label} {j : Nat} (hj : j < l.length) {s : ByteArray} (h : s.data.toList = joinB (l.take j)) :
    ((((if 0 < j then s ++ ⟨#[44]⟩ else s) ++ l[j].key) ++ ⟨#[61]⟩) ++ l[j].value).data.toList = joinB (l.take (j + 1)) := by
  rw [← List.take_append_getElem hj, joinB_snoc]
  by_cases h0 : 0 < j
  · have hne : l.take j ≠ [] := by
      intro e
      have := congrArg List.length e
      rw [List.length_take, List.length_nil] at this
      omega
    rw [if_pos h0, if_neg hne]
    simp only [cat_toList, h, pairB]
    simp
  · obtain rfl : j = 0 := by omega
    have he : s.data.toList = [] := by rw [h]; simp [joinB]
    simp only [if_neg h0, List.take_zero, if_true, cat_toList, he, pairB]
    simp
/-- Lengths of what is under way. -/
theorem join_len {l : List Label} (h : GoodTo l l.length) (h6 : l.length ≤ 6) : ∀ j, j ≤ l.length → (joinB (l.take j)).length ≤ 52 * j := by
  intro j
  induction j with
  | zero => intro _; simp [joinB]
  | succ j ih =>
    intro hj
    have hlt : j < l.length := hj
    have ih := ih (by omega)
    have hg := h j hlt hlt
    have h1 : l[j].key.size ≤ 30 := hg.1.1
    have h2 : l[j].value.size ≤ 20 := by
      rcases hg.2.1 with h | h
      · omega
      · exact h.1
    rw [← List.take_append_getElem hlt, joinB_snoc]
    have hp : (pairB l[j]).length = l[j].key.size + 1 + l[j].value.size := by
      unfold pairB
      rw [List.length_append, List.length_cons, size_len, size_len]
      omega
    split
    · rw [hp]; omega
    · rw [List.length_append, List.length_cons, hp]; omega
end Go.Proofs.YtdgedclpaplgoaaDoor.lab
namespace Go.Proofs.YtdgedclpaplgoaaDoor.lab
open Go Go.RowKit ty cut
set_option linter.unusedVariables false

theorem word_key {b : Int} (h : wordB keyO b = true) : b ≠ 44 ∧ b ≠ 61 := by
  have e : wordB keyO b = (isL b || (b == 45 || b == 95 || b == 46 || b == 47)) := by
    simp [wordB, acc, keyO, at_, ByteArray.size, List.range_succ, Bool.or_assoc]
  rw [e] at h
  simp [isL] at h
  omega
theorem word_val {b : Int} (h : wordB valO b = true) : b ≠ 44 ∧ b ≠ 61 := by
  have e : wordB valO b = (isL b || (b == 45 || b == 95 || b == 46)) := by
    simp [wordB, acc, valO, at_, ByteArray.size, List.range_succ, Bool.or_assoc]
  rw [e] at h
  simp [isL] at h
  omega
theorem bytes_at (s : ByteArray) {P : Int → Prop} (h : ∀ i, i < s.size → P (at_ s i)) : ∀ b ∈ s.data.toList, P (b.toNat : Int) := by
  intro b hb
  obtain ⟨i, hi, rfl⟩ := List.getElem_of_mem hb
  have hs : i < s.size := by rw [Array.length_toList] at hi; exact hi
  have := h i hs
  unfold at_ at this
  rw [List.getD_eq_getElem?_getD, List.getElem?_eq_getElem hi] at this
  exact this
theorem key_bytes {s : ByteArray} (h : KeyP s) : ∀ b ∈ s.data.toList, (b.toNat : Int) ≠ 44 ∧ (b.toNat : Int) ≠ 61 :=
  bytes_at s (P := fun b => b ≠ 44 ∧ b ≠ 61) fun i hi => word_key (h.2.all i hi)
theorem val_bytes {s : ByteArray} (h : ValP s) : ∀ b ∈ s.data.toList, (b.toNat : Int) ≠ 44 ∧ (b.toNat : Int) ≠ 61 :=
  bytes_at s (P := fun b => b ≠ 44 ∧ b ≠ 61) fun i hi => by
    rcases h with h | h
    · omega
    · exact word_val (h.2.all i hi)
theorem mk_id (s : ByteArray) : mk s.data.toList = s := by
  apply ByteArray.ext
  apply Array.ext'
  rfl
theorem mk_list (x : List UInt8) : (mk x).data.toList = x := rfl
theorem pair_back {x : Label} (h1 : KeyP x.key) (h2 : ValP x.value) : pairF (mk (pairB x)) = some x := by
  have e : cutF (mk (pairB x)) 61 = [x.key, x.value] := by
    rw [cut_is, mk_list]
    unfold pairB
    rw [split_cons (c := 61) (b := 61) (by decide) _ _ (fun y hy => (key_bytes h1 y hy).2), split_no _ (fun y hy => (val_bytes h2 y hy).2)]
    simp [mk_id]
  exact pair_yes e
theorem pair_no44 {x : Label} (h1 : KeyP x.key) (h2 : ValP x.value) : ∀ b ∈ pairB x, (b.toNat : Int) ≠ 44 := by
  intro b hb
  unfold pairB at hb
  rcases List.mem_append.1 hb with h | h
  · exact (key_bytes h1 b h).1
  · rcases List.mem_cons.1 h with rfl | h
    · decide
    · exact (val_bytes h2 b h).1
theorem cut_join : ∀ (l : List Label), l ≠ [] → (∀ x ∈ l, KeyP x.key ∧ ValP x.value) → splitL 44 (joinB l) = l.map pairB
  | [], h, _ => absurd rfl h
  | [x], _, h => by
    have hx := h x List.mem_cons_self
    exact split_no _ (pair_no44 hx.1 hx.2)
  | x :: y :: r, _, h => by
    have hx := h x List.mem_cons_self
    rw [joinB, split_cons (c := 44) (b := 44) (by decide) _ _ (pair_no44 hx.1 hx.2), cut_join (y :: r) (by simp) (fun z hz => h z (List.mem_cons_of_mem _ hz))]
    rfl
theorem pairs_back : ∀ (l : List Label), (∀ x ∈ l, KeyP x.key ∧ ValP x.value) → pairs ((l.map pairB).map mk) = some l
  | [], _ => rfl
  | x :: r, h => by
    have hx := h x List.mem_cons_self
    rw [List.map_cons, List.map_cons, pairs, pair_back hx.1 hx.2, pairs_back r fun z hz => h z (List.mem_cons_of_mem _ hz)]
/-- What LabelsLine writes ReadLabelsLine reads. -/
theorem read_line {l : List Label} (h : LabelsP l) : readF (lineF l) = (l, true) := by
  by_cases h0 : l = []
  · subst h0
    rw [line_nil h]
    exact read_dash
  have hall : ∀ x ∈ l, KeyP x.key ∧ ValP x.value := fun x hx => by
    obtain ⟨i, hi, rfl⟩ := List.getElem_of_mem hx
    have := h.2 i hi hi
    exact ⟨this.1, this.2.1⟩
  have hsz : (lineF l).size ≤ 400 := by
    rw [line_yes h h0]
    have h6 := h.1
    have := join_len h.2 h.1 l.length (Nat.le_refl _)
    rw [List.take_length] at this
    show (joinB l).toArray.size ≤ 400
    rw [List.size_toArray]
    omega
  have hne : lineF l ≠ ⟨#[45]⟩ := by
    rw [line_yes h h0]
    intro e
    have e2 : joinB l = [45] := by
      have := congrArg (fun s : ByteArray => s.data.toList) e
      simpa using this
    cases l with
    | nil => exact h0 rfl
    | cons x r =>
      have hx := (hall x List.mem_cons_self).1
      have hp : ∃ t, joinB (x :: r) = pairB x ++ t := by
        cases r with
        | nil => exact ⟨[], by simp [joinB]⟩
        | cons y r => exact ⟨_, rfl⟩
      obtain ⟨t, ht⟩ := hp
      rw [ht] at e2
      have h3 := hx.2.lo
      have h5 := hx.2.fst
      have hl : x.key.data.toList.length = x.key.size := by rw [Array.length_toList]; rfl
      have hlen := congrArg List.length e2
      unfold pairB at hlen
      simp only [List.length_append, List.length_cons, List.length_nil] at hlen
      omega
  refine read_good hne (by omega) ?_ h
  rw [cut_is, line_yes h h0]
  show pairs ((splitL 44 (joinB l)).map mk) = some l
  rw [cut_join l h0 hall]
  exact pairs_back l hall
theorem less_irr : ∀ a : List UInt8, Op.bytesLess a a = false
  | [] => rfl
  | a :: x => by
    rw [Op.bytesLess, less_irr x]
    simp
theorem less_trans : ∀ a b c : List UInt8, Op.bytesLess a b = true → Op.bytesLess b c = true → Op.bytesLess a c = true
  | _, [], _, h, _ => by simp [Op.bytesLess] at h
  | _, _ :: _, [], _, h => by simp [Op.bytesLess] at h
  | [], _ :: _, _ :: _, _, _ => rfl
  | a :: x, b :: y, c :: z, h1, h2 => by
    simp only [Op.bytesLess, Bool.or_eq_true, Bool.and_eq_true, decide_eq_true_eq, beq_iff_eq] at h1 h2 ⊢
    rcases h1 with h1 | ⟨rfl, h1⟩
    · rcases h2 with h2 | ⟨rfl, h2⟩
      · exact .inl (UInt8.lt_trans h1 h2)
      · exact .inl h1
    · rcases h2 with h2 | ⟨rfl, h2⟩
      · exact .inl h2
      · exact .inr ⟨rfl, less_trans x y z h1 h2⟩
theorem asc {l : List Label} (h : LabelsP l) : ∀ (k j : Nat) (hk : k < l.length) (hj : j < k), lessB (l[j]'(by omega)).key l[k].key = true := by
  intro k
  induction k with
  | zero => intro j _ hj; omega
  | succ k ih =>
    intro j hk hj
    have h1 := (h.2 (k + 1) hk hk).2.2 k rfl
    by_cases e : j = k
    · subst e; exact h1
    · exact less_trans _ _ _ (ih j (by omega) (by omega)) h1
/-- What stands in a list in order is found in it. -/
theorem at_mem {l : List Label} (h : LabelsP l) {x : Label} (hx : x ∈ l) : atF l x.key = some x.value := by
  obtain ⟨k, hk, rfl⟩ := List.getElem_of_mem hx
  refine atF_some hk (fun j hj e => ?_) rfl
  have := asc h k j hk hj
  rw [e] at this
  unfold lessB at this
  rw [less_irr] at this
  cases this
/-- Sorting keeps what was told. -/
theorem mem_sorted : ∀ (l acc : List Label) {y : Label}, (y ∈ l ∨ y ∈ acc) → y ∈ l.foldl (fun a x => ins x a) acc
  | [], acc, y, h => by
    rcases h with h | h
    · cases h
    · exact h
  | a :: r, acc, y, h => by
    rw [List.foldl_cons]
    have hin : ∀ z, (z = a ∨ z ∈ acc) → z ∈ ins a acc := fun z hz => by
      unfold ins
      rcases hz with rfl | hz
      · exact List.mem_append_right _ List.mem_cons_self
      · rw [← List.takeWhile_append_dropWhile (p := fun y => !lessB a.key y.key) (l := acc)] at hz
        rcases List.mem_append.1 hz with h | h
        · exact List.mem_append_left _ h
        · exact List.mem_append_right _ (List.mem_cons_of_mem _ h)
    refine mem_sorted r (ins a acc) ?_
    rcases h with h | h
    · rcases List.mem_cons.1 h with rfl | h
      · exact .inr (hin _ (.inl rfl))
      · exact .inl h
    · exact .inr (hin _ (.inr h))
/-- Each label that was told is found behind sorting. -/
theorem at_sorted {l : List Label} (h : LabelsP (sorted l)) {x : Label} (hx : x ∈ l) : atF (sorted l) x.key = some x.value := at_mem h (mem_sorted l [] (.inl hx))
end Go.Proofs.YtdgedclpaplgoaaDoor.lab
namespace Go.Proofs.YtdgedclpaplgoaaDoor.lab
open Go Go.RowKit ty
set_option linter.unusedVariables false

theorem less_total : ∀ a b : List UInt8, Op.bytesLess a b = false → Op.bytesLess b a = false → a = b
  | [], [], _, _ => rfl
  | [], b :: y, h, _ => by simp [Op.bytesLess] at h
  | a :: x, [], _, h => by simp [Op.bytesLess] at h
  | a :: x, b :: y, h1, h2 => by
    simp only [Op.bytesLess, Bool.or_eq_false_iff, Bool.and_eq_false_iff, decide_eq_false_iff_not, beq_eq_false_iff_ne] at h1 h2
    obtain ⟨h1, h3⟩ := h1
    obtain ⟨h2, h4⟩ := h2
    rw [UInt8.lt_iff_toNat_lt] at h1 h2
    obtain rfl : a = b := UInt8.toNat_inj.1 (by omega)
    rcases h3 with h3 | h3
    · exact absurd rfl h3
    · rcases h4 with h4 | h4
      · exact absurd rfl h4
      · rw [less_total x y h3 h4]
theorem less_ntrans (a b c : List UInt8) (h1 : Op.bytesLess a b = false) (h2 : Op.bytesLess b c = false) : Op.bytesLess a c = false := by
  cases h : Op.bytesLess a c with
  | false => rfl
  | true =>
    exfalso
    by_cases hba : Op.bytesLess b a = true
    · have := less_trans b a c hba h
      rw [h2] at this; cases this
    · have hba : Op.bytesLess b a = false := by simpa using hba
      rw [less_total a b h1 hba, h2] at h
      cases h
theorem key_same {a b : ByteArray} (h1 : lessB a b = false) (h2 : lessB b a = false) : a = b := by
  have := less_total _ _ h1 h2
  rw [ByteArray.toList_eq, ByteArray.toList_eq] at this
  apply ByteArray.ext
  exact Array.ext' this
def Weak (x y : Label) : Prop := lessB y.key x.key = false
def Strict (x y : Label) : Prop := lessB x.key y.key = true
theorem strict_weak {x y : Label} (h : Strict x y) : Weak x y := by
  unfold Strict at h
  unfold Weak
  cases h2 : lessB y.key x.key with
  | false => rfl
  | true =>
    have := less_trans _ _ _ h h2
    rw [less_irr] at this
    cases this
theorem uniq {a b : List Label} (h1 : a.Pairwise Strict) (h2 : b.Pairwise Weak) (hp : List.Perm a b) : a = b := by
  refine List.Perm.eq_of_pairwise (le := Weak) (fun x y hx hy e1 e2 => ?_) (h1.imp strict_weak) h2 hp
  have hy := hp.mem_iff.2 hy
  obtain ⟨i, hi, rfl⟩ := List.getElem_of_mem hx
  obtain ⟨j, hj, rfl⟩ := List.getElem_of_mem hy
  have hk := key_same e2 e1
  rw [List.pairwise_iff_getElem] at h1
  rcases Nat.lt_trichotomy i j with h | h | h
  · have := h1 i j hi hj h
    unfold Strict lessB at this
    rw [hk, less_irr] at this; cases this
  · subst h; rfl
  · have := h1 j i hj hi h
    unfold Strict lessB at this
    rw [hk, less_irr] at this; cases this
theorem labels_strict {l : List Label} (h : LabelsP l) : l.Pairwise Strict := by
  rw [List.pairwise_iff_getElem]
  intro i j hi hj hij
  exact asc h j i hj hij
theorem ins_perm (x : Label) (l : List Label) : List.Perm (ins x l) (x :: l) := by
  unfold ins
  refine List.perm_middle.trans ?_
  rw [List.takeWhile_append_dropWhile]
theorem sorted_perm (l : List Label) : List.Perm (sorted l) l := by
  have h : ∀ (l acc : List Label), List.Perm (l.foldl (fun a x => ins x a) acc) (acc ++ l) := by
    intro l
    induction l with
    | nil => intro acc; simp
    | cons a r ih =>
      intro acc
      rw [List.foldl_cons]
      refine (ih _).trans ?_
      refine ((ins_perm a acc).append_right r).trans ?_
      rw [List.cons_append]
      exact (List.perm_middle (a := a) (l₁ := acc) (l₂ := r)).symm
  have := h l []
  rw [List.nil_append] at this
  exact this
theorem ins_weak {x : Label} {l : List Label} (h : l.Pairwise Weak) : (ins x l).Pairwise Weak := by
  unfold ins
  rw [List.pairwise_append]
  have h1 : (l.takeWhile (fun y => !lessB x.key y.key)).Pairwise Weak := h.sublist (List.takeWhile_sublist _)
  have h2 : (l.dropWhile (fun y => !lessB x.key y.key)).Pairwise Weak := h.sublist (List.dropWhile_suffix _).sublist
  have h3 : ∀ y ∈ l.takeWhile (fun y => !lessB x.key y.key), lessB x.key y.key = false := fun y hy => by
    have := List.all_takeWhile (p := fun y => !lessB x.key y.key) (l := l)
    have := List.all_eq_true.1 this y hy
    simpa using this
  have h4 : ∀ y ∈ l.dropWhile (fun y => !lessB x.key y.key), lessB x.key y.key = true := by
    cases hd : l.dropWhile (fun y => !lessB x.key y.key) with
    | nil => intro y hy; cases hy
    | cons z r =>
      have hz := List.head?_dropWhile_not (fun y => !lessB x.key y.key) l
      rw [hd] at hz h2
      simp at hz
      intro y hy
      rcases List.mem_cons.1 hy with rfl | hy
      · exact hz
      · have hw : Weak z y := (List.pairwise_cons.1 h2).1 y hy
        cases hxy : lessB x.key y.key with
        | true => rfl
        | false =>
          exfalso
          have := less_ntrans _ _ _ hxy hw
          unfold lessB at hz
          rw [hz] at this; cases this
  refine ⟨h1, ?_, ?_⟩
  · rw [List.pairwise_cons]
    refine ⟨fun y hy => ?_, h2⟩
    exact strict_weak (h4 y hy)
  · intro a ha b hb
    rcases List.mem_cons.1 hb with rfl | hb
    · exact h3 a ha
    · exact strict_weak (by
        have e1 := h3 a ha
        have e2 := h4 b hb
        unfold Strict
        cases hab : lessB a.key b.key with
        | true => rfl
        | false =>
          exfalso
          have := less_ntrans _ _ _ e1 hab
          unfold lessB at e2
          rw [e2] at this; cases this)
theorem sorted_weak (l : List Label) : (sorted l).Pairwise Weak := by
  have h : ∀ (l acc : List Label), acc.Pairwise Weak → (l.foldl (fun a x => ins x a) acc).Pairwise Weak := by
    intro l
    induction l with
    | nil => intro acc h; exact h
    | cons a r ih => intro acc h; rw [List.foldl_cons]; exact ih _ (ins_weak h)
  exact h l [] List.Pairwise.nil
/-- A list that holds the same labels in order: good exactly where the document's is, and then that one. -/
theorem any_sorted {l d : List Label} (hp : List.Perm d l) (hw : d.Pairwise Weak) : (LabelsP d ↔ LabelsP (sorted l)) ∧ (LabelsP d → d = sorted l) := by
  have hp2 : List.Perm d (sorted l) := hp.trans (sorted_perm l).symm
  have h1 : LabelsP d → d = sorted l := fun h => uniq (labels_strict h) (sorted_weak l) hp2
  refine ⟨⟨fun h => by rw [← h1 h]; exact h, fun h => ?_⟩, h1⟩
  rw [← uniq (labels_strict h) hw hp2.symm]
  exact h
theorem sort_any_yes {l d : List Label} (hp : List.Perm d l) (hw : d.Pairwise Weak) (h : LabelsP d) : sortF l = (d, true) := by
  have e := (any_sorted hp hw).2 h
  subst e
  exact sort_yes (by have := h.1; rw [sorted_length] at this; exact this) h
theorem sort_any_no {l d : List Label} (hp : List.Perm d l) (hw : d.Pairwise Weak) (h : ¬ LabelsP d) : sortF l = (l, false) :=
  sort_no fun h2 => h ((any_sorted hp hw).1.2 h2.2)
end Go.Proofs.YtdgedclpaplgoaaDoor.lab
