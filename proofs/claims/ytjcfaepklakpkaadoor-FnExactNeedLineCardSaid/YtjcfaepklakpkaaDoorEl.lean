/- A slice of structs that reads: its elements; rows of structs, one behind the other; the law's marks on a list, plain. Over any program. -/
import Derived.Test.YtjcfaepklakpkaaDoorCellW
import Derived.Deep.Slices
namespace Go.Proofs.YtjcfaepklakpkaaDoor
open Go Go.RowKit
set_option linter.unusedVariables false

theorem flat_get' {α β : Type} {f : α → List β} {sz : Nat} (hf : ∀ a, (f a).length = sz) : ∀ (l : List α) (i j : Nat) (a : α), l[i]? = some a → j < sz → (l.flatMap f)[i * sz + j]? = (f a)[j]?
  | [], i, j, a, h, _ => by simp at h
  | x :: l, 0, j, a, h, hj => by
    simp at h
    subst h
    rw [List.flatMap_cons, List.getElem?_append_left (by rw [hf]; omega)]
    simp
  | x :: l, i + 1, j, a, h, hj => by
    rw [List.flatMap_cons, List.getElem?_append_right (by rw [hf, Nat.add_mul]; omega), hf, Nat.add_mul, show i * sz + 1 * sz + j - sz = i * sz + j by omega]
    exact flat_get' hf l i j a (by simpa using h) hj
theorem flat_length' {α β : Type} {f : α → List β} {sz : Nat} (hf : ∀ a, (f a).length = sz) : ∀ l : List α, (l.flatMap f).length = l.length * sz
  | [] => by simp
  | x :: l => by rw [List.flatMap_cons, List.length_append, hf, flat_length' hf l, List.length_cons, Nat.add_mul]; omega
/-- The elements of a slice of structs, each as its cells. -/
def ElsAt {α : Type} (row : α → List C) (w : World) (f : Nat) (A : Option Addr) (l : List α) (k : Nat) : Prop :=
  0 < l.length → ∃ g o, A = some ⟨g, o, none⟩ ∧ g < w.heap.size ∧ ∀ (j : Nat) (x : α), l[j]? = some x → ∃ us : List Value, us.length = k ∧ (∀ i u, us[i]? = some u → w.cell? ⟨g, o + j * k + i, none⟩ = some u) ∧ LiesS w f us (row x)
theorem ElsAt.kept {α : Type} {row : α → List C} {w w' : World} {f : Nat} {A : Option Addr} {l : List α} {k : Nat} (h : ElsAt row w f A l k) (hk : ∀ g, g < w.heap.size → w'.heap[g]? = w.heap[g]?) : ElsAt row w' f A l k := by
  intro hn
  obtain ⟨g, o, rfl, hg, hc⟩ := h hn
  have e := hk g hg
  have hs : g < w'.heap.size := by
    rw [Array.getElem?_eq_getElem hg] at e
    exact heap_lt e
  refine ⟨g, o, rfl, hs, fun j x hx => ?_⟩
  obtain ⟨us, h1, h2, h3⟩ := hc j x hx
  exact ⟨us, h1, fun i u hu => (World.cell?_of_block e).trans (h2 i u hu), h3.kept hk⟩
theorem ElsAt.below {α : Type} {row : α → List C} {w w' : World} {f : Nat} {A : Option Addr} {l : List α} {k : Nat} (h : ElsAt row w f A l k) (hb : Below w.heap.size w w') : ElsAt row w' f A l k := h.kept hb.block
theorem els_of {α : Type} {row : α → List C} {k : Nat} (hk : ∀ x, (row x).length = k) {w : World} {f : Nat} {v : Value} {l : List α} (h : Lies w f v (.sl k l.length (l.flatMap row))) :
    ∃ A c, v = .slice A l.length c ∧ l.length ≤ c ∧ c ≤ maxLen ∧ ∃ f', f = f' + 1 ∧ ElsAt row w f' A l k := by
  obtain ⟨A, c, rfl, h1, h2, _, f', rfl, h3⟩ := h.sl
  refine ⟨A, c, rfl, h1, h2, f', rfl, fun hn => ?_⟩
  obtain ⟨g, o, rfl, hg, hc⟩ := h3 hn
  refine ⟨g, o, rfl, hg, fun j x hx => ?_⟩
  have hone : ∀ i, i < k → ∃ u : Value, w.cell? ⟨g, o + (j * k + i), none⟩ = some u ∧ ∃ d, (row x)[i]? = some d ∧ Lies w f' u d := fun i hi => by
    have hd : i < (row x).length := by rw [hk]; exact hi
    obtain ⟨u, hu, hl⟩ := hc (j * k + i) (row x)[i] (by rw [flat_get' hk l j i x hx hi]; exact List.getElem?_eq_getElem hd)
    exact ⟨u, hu, _, List.getElem?_eq_getElem hd, hl⟩
  obtain ⟨q, hq⟩ := Go.Deep.choose_lt hone
  refine ⟨(List.range k).map q, by simp, fun i u hu => ?_, by simp [hk], fun m u d hu hd => ?_⟩
  · have hi : i < k := by have := (List.getElem?_eq_some_iff.1 hu).1; simpa using this
    simp [hi] at hu
    subst hu
    rw [Nat.add_assoc]
    exact (hq i hi).1
  · have hi : m < k := by have := (List.getElem?_eq_some_iff.1 hu).1; simpa using this
    simp [hi] at hu
    subst hu
    obtain ⟨_, d', e, hl⟩ := hq m hi
    rw [e] at hd
    injection hd with hd
    exact hd ▸ hl
/-- One element, its place known. -/
theorem ElsAt.get {α : Type} {row : α → List C} {w : World} {f : Nat} {A : Option Addr} {l : List α} {k : Nat} (h : ElsAt row w f A l k) {j : Nat} (hj : j < l.length) : ∃ g o, A = some ⟨g, o, none⟩ ∧ g < w.heap.size ∧ ∃ us : List Value, us.length = k ∧ (∀ i u, us[i]? = some u → w.cell? ⟨g, o + j * k + i, none⟩ = some u) ∧ LiesS w f us (row l[j]) := by
  obtain ⟨g, o, hA, hg, hc⟩ := h (by omega)
  exact ⟨g, o, hA, hg, hc j _ (List.getElem?_eq_getElem hj)⟩

/-! What is left of so many. -/
/-- What is left of so many behind x: -1 if they do not do. -/
def cutN (left : Int) (x : Nat) : Int := if left < x then -1 else left - x
theorem cutN_no {left : Int} {x : Nat} (h : left < x) : cutN left x = -1 := by unfold cutN; rw [if_pos h]
theorem cutN_yes {left : Int} {x : Nat} (h : ¬ left < x) : cutN left x = left - x := by unfold cutN; rw [if_neg h]
def LeftN (l : Int) : Prop := 0 ≤ l ∧ l ≤ 1048576
def wsum {α : Type} (wt : α → Nat) (l : List α) : Nat := (l.map wt).sum
theorem wsum_append {α : Type} (wt : α → Nat) (a b : List α) : wsum wt (a ++ b) = wsum wt a + wsum wt b := by simp [wsum]
theorem wsum_take {α : Type} (wt : α → Nat) {l : List α} {j : Nat} (h : j < l.length) : wsum wt (l.take (j + 1)) = wsum wt (l.take j) + wt l[j] := by
  rw [List.take_succ_eq_append_getElem h, wsum_append]; simp [wsum]
theorem wsum_all {α : Type} (wt : α → Nat) (l : List α) (j : Nat) : wsum wt l = wsum wt (l.take j) + wsum wt (l.drop j) := by
  rw [← wsum_append, List.take_append_drop]
theorem wsum_mem {α : Type} (wt : α → Nat) {l : List α} {j : Nat} (h : j < l.length) : wt l[j] ≤ wsum wt l := by
  have h1 := wsum_all wt l (j + 1)
  rw [wsum_take wt h] at h1
  omega

/-! The law's marks on a list. -/
def mks {α : Type} (mk : α → Int → α) (cost : α → Nat) : List α → Int → List α
  | [], _ => []
  | x :: r, k => mk x k :: mks mk cost r (k + cost x)
theorem mks_length {α : Type} (mk : α → Int → α) (cost : α → Nat) : ∀ (l : List α) (k : Int), (mks mk cost l k).length = l.length
  | [], _ => rfl
  | x :: r, k => by rw [mks, List.length_cons, List.length_cons, mks_length mk cost r]
theorem mks_append {α : Type} (mk : α → Int → α) (cost : α → Nat) : ∀ (a b : List α) (k : Int), mks mk cost (a ++ b) k = mks mk cost a k ++ mks mk cost b (k + wsum cost a)
  | [], b, k => by simp [mks, wsum]
  | x :: r, b, k => by
    rw [List.cons_append, mks, mks, mks_append mk cost r b, List.cons_append]
    have : (k + (cost x : Int)) + (wsum cost r : Int) = k + (wsum cost (x :: r) : Int) := by simp [wsum]; omega
    rw [this]
theorem mks_next {α : Type} (mk : α → Int → α) (cost : α → Nat) {l : List α} {j : Nat} (h : j < l.length) (k : Int) : mks mk cost (l.take (j + 1)) k ++ l.drop (j + 1) = mks mk cost (l.take j) k ++ (mk l[j] (k + wsum cost (l.take j)) :: l.drop (j + 1)) := by
  rw [List.take_succ_eq_append_getElem h, mks_append]
  simp [mks]
theorem mks_get {α : Type} (mk : α → Int → α) (cost : α → Nat) {l : List α} {j : Nat} (h : j < l.length) (k : Int) : (mks mk cost l k)[j]? = some (mk l[j] (k + wsum cost (l.take j))) := by
  have e : l = l.take j ++ (l[j] :: l.drop (j + 1)) := by rw [← List.drop_eq_getElem_cons h, List.take_append_drop]
  have e2 : mks mk cost l k = mks mk cost (l.take j) k ++ (mk l[j] (k + wsum cost (l.take j)) :: mks mk cost (l.drop (j + 1)) (k + wsum cost (l.take j) + cost l[j])) := by
    conv => lhs; rw [e]
    rw [mks_append, mks]
  rw [e2, List.getElem?_append_right (by rw [mks_length, List.length_take]; omega), mks_length, List.length_take, show j - min j l.length = 0 by omega]
  rfl
end Go.Proofs.YtjcfaepklakpkaaDoor
