/- Plain mathematics: the trees in a tree, each with its depth, in the order of their first letters; a stack of lists of trees that visits them; what counts, depths and truths over them say. -/
import Derived.Test.YtmldigfghiofkaaDoorTreeM
namespace Go.Proofs.YtmldigfghiofkaaDoor.tree
open Go Go.RowKit
set_option linter.unusedVariables false

mutual
def pre (d : Nat) : T → List (T × Nat)
  | .mk k f n s ks kids => (.mk k f n s ks kids, d) :: pres (d + 1) kids
def pres (d : Nat) : List T → List (T × Nat)
  | [] => []
  | t :: r => pre d t ++ pres d r
end
/-- What a stack (its top first) still has to visit. -/
def outs : List (List T) → List (T × Nat)
  | [] => []
  | l :: r => pres (r.length + 1) l ++ outs r
def leftS : List (List T) → Nat
  | [] => 0
  | l :: r => 2 * sizes l + 1 + leftS r
theorem outs_pop (r : List (List T)) : outs ([] :: r) = outs r := by simp [outs, pres]
theorem left_pop (r : List (List T)) : leftS ([] :: r) = leftS r + 1 := by simp [leftS, sizes]; omega
theorem outs_step (x : T) (l : List T) (r : List (List T)) : outs ((x :: l) :: r) = (x, r.length + 1) :: outs (x.kids :: l :: r) := by
  obtain ⟨k, f, n, s, ks, kids⟩ := x
  simp [outs, pres, pre, T.kids]
theorem left_step (x : T) (l : List T) (r : List (List T)) : leftS ((x :: l) :: r) = leftS (x.kids :: l :: r) + 1 := by
  obtain ⟨k, f, n, s, ks, kids⟩ := x
  simp only [leftS, sizes, size, T.kids]
  omega
theorem outs_one (t : T) : outs [[t]] = pre 1 t := by simp [outs, pres]

theorem pres_length : ∀ (l : List T) (d : Nat), (pres d l).length = sizes l := by
  have key : ∀ t d, (pre d t).length = size t := by
    refine T.ind fun k f n s ks kids ih => fun d => ?_
    have : ∀ (l : List T), (∀ x ∈ l, ∀ d, (pre d x).length = size x) → ∀ d, (pres d l).length = sizes l := by
      intro l
      induction l with
      | nil => intro _ d; simp [pres, sizes]
      | cons a r ih2 =>
        intro h d
        rw [pres, sizes, List.length_append, h a List.mem_cons_self, ih2 (fun x hx => h x (List.mem_cons_of_mem _ hx))]
    rw [pre, size, List.length_cons, this kids ih]
    omega
  intro l
  induction l with
  | nil => intro d; simp [pres, sizes]
  | cons a r ih => intro d; rw [pres, sizes, List.length_append, key a, ih]
theorem pre_length (t : T) (d : Nat) : (pre d t).length = size t := by
  have := pres_length [t] d
  simpa [pres, sizes] using this

/-- The greatest depth among them. -/
def maxD : List (T × Nat) → Nat
  | [] => 0
  | x :: r => max x.2 (maxD r)
theorem maxD_append : ∀ a b : List (T × Nat), maxD (a ++ b) = max (maxD a) (maxD b)
  | [], b => by simp [maxD]
  | x :: r, b => by rw [List.cons_append, maxD, maxD, maxD_append r b]; omega
theorem maxD_pre : ∀ (t : T) (d : Nat), maxD (pre (d + 1) t) = d + depth t := by
  refine T.ind fun k f n s ks kids ih => fun d => ?_
  have : ∀ (l : List T), (∀ x ∈ l, ∀ d, maxD (pre (d + 1) x) = d + depth x) → ∀ d, l ≠ [] → maxD (pres (d + 1) l) = d + depths l := by
    intro l
    induction l with
    | nil => intro _ d h; exact absurd rfl h
    | cons a r ih2 =>
      intro h d _
      rw [pres, maxD_append, h a List.mem_cons_self, depths]
      cases r with
      | nil => simp [pres, maxD, depths]
      | cons b r =>
        rw [ih2 (fun x hx => h x (List.mem_cons_of_mem _ hx)) d (by simp)]
        omega
  rw [pre, depth, maxD]
  cases kids with
  | nil => simp [pres, maxD, depths]
  | cons a r =>
    rw [this _ ih (d + 1) (by simp)]
    show max (d + 1) _ = _
    omega

/-- One tree's own leaf. -/
def leaf1 (t : T) : Nat := if t.kids.length = 0 ∧ t.kind ≠ 5 ∧ t.kind ≠ 6 then 1 else 0
def sumL : List (T × Nat) → Nat
  | [] => 0
  | x :: r => leaf1 x.1 + sumL r
theorem sumL_append : ∀ a b : List (T × Nat), sumL (a ++ b) = sumL a + sumL b
  | [], b => by simp [sumL]
  | x :: r, b => by rw [List.cons_append, sumL, sumL, sumL_append r b]; omega
theorem sumL_pre : ∀ (t : T) (d : Nat), sumL (pre d t) = leaves t := by
  refine T.ind fun k f n s ks kids ih => fun d => ?_
  have : ∀ (l : List T), (∀ x ∈ l, ∀ d, sumL (pre d x) = leaves x) → ∀ d, sumL (pres d l) = leavess l := by
    intro l
    induction l with
    | nil => intro _ d; simp [pres, sumL, leavess]
    | cons a r ih2 =>
      intro h d
      rw [pres, sumL_append, h a List.mem_cons_self, leavess, ih2 (fun x hx => h x (List.mem_cons_of_mem _ hx))]
  rw [pre, leaves, sumL, this kids ih]
  cases kids with
  | nil =>
    simp only [leaf1, T.kids, T.kind, List.length_nil, leavess, if_true]
    by_cases h5 : k = 5 <;> by_cases h6 : k = 6 <;> simp [h5, h6]
  | cons a r => simp [leaf1, T.kids]

/-- One tree's own fields are right. -/
def Node : T → Prop
  | .mk k f n s ks kids => Fit k f n s ks.length kids.length ∧ TextOk s ∧ KeysOk ks
theorem shape_pre : ∀ (t : T) (d : Nat), Shape t ↔ ∀ x ∈ pre d t, Node x.1 := by
  refine T.ind fun k f n s ks kids ih => fun d => ?_
  have : ∀ (l : List T), (∀ x ∈ l, ∀ d, Shape x ↔ ∀ y ∈ pre d x, Node y.1) → ∀ d, Shapes l ↔ ∀ y ∈ pres d l, Node y.1 := by
    intro l
    induction l with
    | nil => intro _ d; simp [pres, Shapes]
    | cons a r ih2 =>
      intro h d
      rw [pres, Shapes, h a List.mem_cons_self d, ih2 (fun x hx => h x (List.mem_cons_of_mem _ hx)) d]
      simp only [List.mem_append]
      constructor
      · rintro ⟨h1, h2⟩ y (hy | hy)
        · exact h1 y hy
        · exact h2 y hy
      · exact fun h3 => ⟨fun y hy => h3 y (.inl hy), fun y hy => h3 y (.inr hy)⟩
  rw [pre, Shape, this kids ih (d + 1)]
  simp only [List.mem_cons]
  constructor
  · rintro ⟨h1, h2, h3, h4⟩ x (rfl | hx)
    · exact ⟨h1, h2, h3⟩
    · exact h4 x hx
  · intro h
    have h0 : Node (.mk k f n s ks kids) := h _ (.inl rfl)
    exact ⟨h0.1, h0.2.1, h0.2.2, fun y hy => h y (.inr hy)⟩
theorem maxD_le {l : List (T × Nat)} {b : Nat} : maxD l ≤ b ↔ ∀ x ∈ l, x.2 ≤ b := by
  induction l with
  | nil => simp [maxD]
  | cons a r ih =>
    rw [maxD]
    simp only [List.mem_cons]
    constructor
    · rintro h x (rfl | hx)
      · omega
      · exact ih.1 (by omega) x hx
    · intro h
      have h1 := h a (.inl rfl)
      have h2 := ih.2 (fun x hx => h x (.inr hx))
      omega
/-- A tree is right if so many are in it, none too deep, each right by itself. -/
theorem ok_pre (t : T) : Ok t ↔ (pre 1 t).length ≤ 300 ∧ ∀ x ∈ pre 1 t, x.2 ≤ 8 ∧ Node x.1 := by
  have h1 := maxD_pre t 0
  rw [Nat.zero_add, Nat.zero_add] at h1
  unfold Ok
  rw [pre_length, shape_pre t 1, ← h1, maxD_le]
  constructor
  · rintro ⟨a, b, c⟩
    exact ⟨b, fun x hx => ⟨a x hx, c x hx⟩⟩
  · rintro ⟨a, b⟩
    exact ⟨fun x hx => (b x hx).1, a, fun x hx => (b x hx).2⟩
end Go.Proofs.YtmldigfghiofkaaDoor.tree
