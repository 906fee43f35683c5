/- Merged: TreeM FieldM. -/
import Derived.Test.YtangdmjdjiddcaaDoorRuneM
import Derived.Test.YtangdmjdjiddcaaDoorCell
import Derived.Test.YtangdmjdjiddcaaDoorAmountM
namespace Go.Proofs.YtangdmjdjiddcaaDoor.tree
open Go Go.RowKit
set_option linter.unusedVariables false

inductive T where
  | mk (kind : Int) (flag : Bool) (num : Int) (text : ByteArray) (keys : List ByteArray) (kids : List T)
namespace T
def kind : T → Int | mk k _ _ _ _ _ => k
def flag : T → Bool | mk _ f _ _ _ _ => f
def num : T → Int | mk _ _ n _ _ _ => n
def text : T → ByteArray | mk _ _ _ s _ _ => s
def keys : T → List ByteArray | mk _ _ _ _ ks _ => ks
def kids : T → List T | mk _ _ _ _ _ kids => kids
end T
/-- What holds of a tree if it holds of its kids holds of all. -/
theorem T.ind {P : T → Prop} (h : ∀ k f n s ks kids, (∀ x ∈ kids, P x) → P (T.mk k f n s ks kids)) : ∀ t, P t :=
  fun t => T.rec (motive_1 := P) (motive_2 := fun l => ∀ x ∈ l, P x) (fun k f n s ks kids ih => h k f n s ks kids ih) (fun x hx => by cases hx)
    (fun a r ha hr x hx => by
      rcases List.mem_cons.1 hx with rfl | hx
      · exact ha
      · exact hr x hx) t

/-! What a tree's cells read as. -/
def skeys (ks : List ByteArray) : List C := ks.map C.str
mutual
def row : T → List C
  | .mk k f n s ks kids => [.int .i64 k, .bool f, .int .i64 n, .str s, .sl 1 ks.length (skeys ks), .sl 6 kids.length (rows kids)]
def rows : List T → List C
  | [] => []
  | t :: r => row t ++ rows r
end
theorem row_length (t : T) : (row t).length = 6 := by cases t; rfl
theorem rows_length : ∀ l : List T, (rows l).length = l.length * 6
  | [] => rfl
  | t :: r => by rw [rows, List.length_append, row_length, rows_length r, List.length_cons]; omega
theorem rows_append : ∀ a b : List T, rows (a ++ b) = rows a ++ rows b
  | [], b => rfl
  | t :: r, b => by rw [List.cons_append, rows, rows, rows_append r b, List.append_assoc]
theorem skeys_length (ks : List ByteArray) : (skeys ks).length = ks.length := by simp [skeys]
/-- Field j of kid i. -/
theorem rows_get : ∀ (l : List T) (i j : Nat) (hi : i < l.length), j < 6 → (rows l)[i * 6 + j]? = (row l[i])[j]?
  | [], i, j, hi, _ => by simp at hi
  | t :: r, 0, j, _, hj => by
    rw [rows, List.getElem?_append_left (by rw [row_length]; omega)]
    simp
  | t :: r, i + 1, j, hi, hj => by
    rw [rows, List.getElem?_append_right (by rw [row_length]; omega), row_length, show (i + 1) * 6 + j - 6 = i * 6 + j by omega]
    exact rows_get r i j (by simpa using hi) hj

/-! Its measures. -/
mutual
def size : T → Nat
  | .mk _ _ _ _ _ kids => 1 + sizes kids
def sizes : List T → Nat
  | [] => 0
  | t :: r => size t + sizes r
end
mutual
def depth : T → Nat
  | .mk _ _ _ _ _ kids => depths kids + 1
def depths : List T → Nat
  | [] => 0
  | t :: r => max (depth t) (depths r)
end
mutual
def leaves : T → Nat
  | .mk k _ _ _ _ kids => if kids.length = 0 then (if k = 5 ∨ k = 6 then 0 else 1) else leavess kids
def leavess : List T → Nat
  | [] => 0
  | t :: r => leaves t + leavess r
end
/-- What the law counts: bytes of texts and keys, and elements of lists. -/
def weightK : List ByteArray → Nat
  | [] => 0
  | s :: r => s.size + weightK r
mutual
def weight : T → Nat
  | .mk _ _ _ s ks kids => s.size + (ks.length + weightK ks) + (kids.length + weights kids)
def weights : List T → Nat
  | [] => 0
  | t :: r => weight t + weights r
end
theorem sizes_append : ∀ a b : List T, sizes (a ++ b) = sizes a + sizes b
  | [], b => by simp [sizes]
  | t :: r, b => by rw [List.cons_append, sizes, sizes, sizes_append r b]; omega
theorem depths_append : ∀ a b : List T, depths (a ++ b) = max (depths a) (depths b)
  | [], b => by simp [depths]
  | t :: r, b => by rw [List.cons_append, depths, depths, depths_append r b]; omega
theorem leavess_append : ∀ a b : List T, leavess (a ++ b) = leavess a + leavess b
  | [], b => by simp [leavess]
  | t :: r, b => by rw [List.cons_append, leavess, leavess, leavess_append r b]; omega
theorem weights_append : ∀ a b : List T, weights (a ++ b) = weights a + weights b
  | [], b => by simp [weights]
  | t :: r, b => by rw [List.cons_append, weights, weights, weights_append r b]; omega
theorem weightK_append : ∀ a b : List ByteArray, weightK (a ++ b) = weightK a + weightK b
  | [], b => by simp [weightK]
  | t :: r, b => by rw [List.cons_append, weightK, weightK, weightK_append r b]; omega
theorem sizes_le_mem {l : List T} {x : T} (h : x ∈ l) : size x ≤ sizes l := by
  induction l with
  | nil => cases h
  | cons a r ih =>
    rw [sizes]
    rcases List.mem_cons.1 h with rfl | h
    · omega
    · have := ih h; omega
/-- The size is no more than one above the weight; so are depth and leaves. -/
theorem size_le_weight : ∀ t, size t ≤ 1 + weight t := by
  refine T.ind fun k f n s ks kids ih => ?_
  rw [size, weight]
  have : sizes kids ≤ kids.length + weights kids := by
    clear f n s ks k
    induction kids with
    | nil => simp [sizes]
    | cons a r ih2 =>
      rw [sizes, weights, List.length_cons]
      have h1 := ih a List.mem_cons_self
      have h2 := ih2 (fun x hx => ih x (List.mem_cons_of_mem _ hx))
      omega
  omega
theorem depth_le_size : ∀ t, depth t ≤ size t := by
  refine T.ind fun k f n s ks kids ih => ?_
  rw [size, depth]
  have : depths kids ≤ sizes kids := by
    clear f n s ks k
    induction kids with
    | nil => simp [depths]
    | cons a r ih2 =>
      rw [sizes, depths]
      have h1 := ih a List.mem_cons_self
      have h2 := ih2 (fun x hx => ih x (List.mem_cons_of_mem _ hx))
      omega
  omega
theorem leaves_le_size : ∀ t, leaves t ≤ size t := by
  refine T.ind fun k f n s ks kids ih => ?_
  rw [size, leaves]
  have : leavess kids ≤ sizes kids := by
    clear f n s ks k
    induction kids with
    | nil => simp [leavess]
    | cons a r ih2 =>
      rw [sizes, leavess]
      have h1 := ih a List.mem_cons_self
      have h2 := ih2 (fun x hx => ih x (List.mem_cons_of_mem _ hx))
      omega
  split
  · split <;> omega
  · omega

theorem leavess_le_sizes : ∀ l : List T, leavess l ≤ sizes l
  | [] => by simp [leavess]
  | t :: r => by rw [leavess, sizes]; have := leaves_le_size t; have := leavess_le_sizes r; omega

/-! Right trees. -/
def less (a b : ByteArray) : Bool := Op.bytesLess a.toList b.toList
def TextOk (s : ByteArray) : Prop := s.size ≤ 400 ∧ (rune.runesF s).isSome = true
def KeyOk (ks : List ByteArray) (i : Nat) : Prop := TextOk (ks.getD i ⟨#[]⟩) ∧ (0 < i → less (ks.getD (i - 1) ⟨#[]⟩) (ks.getD i ⟨#[]⟩) = true)
def KeysOk (ks : List ByteArray) : Prop := ∀ i, i < ks.length → KeyOk ks i
/-- The fields that a kind uses. -/
def Fit (k : Int) (f : Bool) (n : Int) (s : ByteArray) (nks nkids : Nat) : Prop :=
  1 ≤ k ∧ k ≤ 6 ∧ (f = true → k = 2) ∧ (n ≠ 0 → k = 3) ∧ (0 < s.size → k = 4) ∧ (0 < nks → k = 6) ∧ (0 < nkids → 5 ≤ k) ∧ (k = 6 → nks = nkids)
mutual
def Shape : T → Prop
  | .mk k f n s ks kids => Fit k f n s ks.length kids.length ∧ TextOk s ∧ KeysOk ks ∧ Shapes kids
def Shapes : List T → Prop
  | [] => True
  | t :: r => Shape t ∧ Shapes r
end
theorem shapes_iff : ∀ l : List T, Shapes l ↔ ∀ x ∈ l, Shape x
  | [] => by simp [Shapes]
  | t :: r => by rw [Shapes, shapes_iff r]; simp
def Ok (t : T) : Prop := depth t ≤ 8 ∧ size t ≤ 300 ∧ Shape t

/-! A key's place. -/
def keyFrom (key : ByteArray) : List ByteArray → Nat → Int
  | [], _ => -1
  | k :: r, i => if k = key then (i : Int) else keyFrom key r (i + 1)
def keyAt (t : T) (key : ByteArray) : Int := if t.kind = 6 then keyFrom key t.keys 0 else -1
theorem keyFrom_cases (key : ByteArray) : ∀ (ks : List ByteArray) (i : Nat), (keyFrom key ks i = -1 ∧ key ∉ ks) ∨ ∃ j : Nat, keyFrom key ks i = ((i + j : Nat) : Int) ∧ ks[j]? = some key ∧ ∀ m, m < j → ks[m]? ≠ some key
  | [], i => .inl ⟨rfl, by simp⟩
  | k :: r, i => by
    by_cases h : k = key
    · exact .inr ⟨0, by simp [keyFrom, h], by simp [h], fun m hm => by omega⟩
    · rcases keyFrom_cases key r (i + 1) with ⟨h1, h2⟩ | ⟨j, h1, h2, h3⟩
      · exact .inl ⟨by simp [keyFrom, h, h1], by simp [h2]; exact fun e => h e.symm⟩
      · refine .inr ⟨j + 1, by rw [keyFrom, if_neg h, h1]; congr 1; omega, by simpa using h2, fun m hm => ?_⟩
        cases m with
        | zero => simpa using h
        | succ m => simpa using h3 m (by omega)
theorem keyFrom_at {key : ByteArray} {ks : List ByteArray} {j : Nat} (h1 : ks[j]? = some key) (h2 : ∀ m, m < j → ks[m]? ≠ some key) : keyFrom key ks 0 = (j : Int) := by
  rcases keyFrom_cases key ks 0 with ⟨_, h⟩ | ⟨i, hi, h3, h4⟩
  · exact absurd (List.mem_of_getElem? h1) h
  · rw [hi]
    have : i = j := by
      rcases Nat.lt_trichotomy i j with h | h | h
      · exact absurd h3 (h2 i h)
      · exact h
      · exact absurd h1 (h4 j h)
    omega
theorem keyFrom_none {key : ByteArray} {ks : List ByteArray} (h : ∀ m, m < ks.length → ks[m]? ≠ some key) : keyFrom key ks 0 = -1 := by
  rcases keyFrom_cases key ks 0 with ⟨h, _⟩ | ⟨i, hi, h3, h4⟩
  · exact h
  · exact absurd h3 (h i (List.getElem?_eq_some_iff.1 h3).1)
def zero : T := .mk 0 false 0 ⟨#[]⟩ [] []
def kidOf (t : T) (key : ByteArray) : T × Bool := if 0 ≤ keyAt t key ∧ t.keys.length = t.kids.length then (t.kids.getD (keyAt t key).toNat zero, true) else (zero, false)

theorem weights_le_mem {l : List T} {x : T} (h : x ∈ l) : weight x ≤ weights l := by
  induction l with
  | nil => cases h
  | cons a r ih =>
    rw [weights]
    rcases List.mem_cons.1 h with rfl | h
    · omega
    · have := ih h; omega
theorem kidOf_weight (t : T) (key : ByteArray) : weight (kidOf t key).1 ≤ weight t := by
  unfold kidOf
  split
  · obtain ⟨k, f, n, s, ks, kids⟩ := t
    rw [List.getD_eq_getElem?_getD]
    cases h : (T.mk k f n s ks kids).kids[(keyAt (T.mk k f n s ks kids) key).toNat]? with
    | none => simp [zero, weight, weights, weightK]; exact Nat.zero_le _
    | some x =>
      have hx : x ∈ kids := List.mem_of_getElem? h
      have := weights_le_mem hx
      show weight x ≤ _
      rw [weight]
      omega
  · have e : weight zero = 0 := by simp [zero, weight, weights, weightK]; rfl
    show weight zero ≤ _
    omega

/-! A kid put at its key. -/
/-- The keys and kids with (key, kid) put in (laid: it is). -/
def put (key : ByteArray) (kid : T) : Bool → List (ByteArray × T) → List (ByteArray × T)
  | laid, [] => if laid then [] else [(key, kid)]
  | laid, (k, x) :: r =>
    (if !laid && !less k key then [(key, kid)] else []) ++ ((if k = key then [] else [(k, x)]) ++ put key kid (laid || !less k key) r)
def putT (t : T) (key : ByteArray) (kid : T) : T := .mk 6 false 0 ⟨#[]⟩ ((put key kid false (t.keys.zip t.kids)).map (·.1)) ((put key kid false (t.keys.zip t.kids)).map (·.2))
open Classical in
noncomputable def putKid (t : T) (key : ByteArray) (kid : T) : T × Bool := if t.kind = 6 ∧ Ok t ∧ Ok (putT t key kid) then (putT t key kid, true) else (t, false)
def textT (s : ByteArray) : T := .mk 4 false 0 s [] []
def intT (n : Int) : T := .mk 3 false n ⟨#[]⟩ [] []
def listT (kids : List T) : T := .mk 5 false 0 ⟨#[]⟩ [] kids
end Go.Proofs.YtangdmjdjiddcaaDoor.tree
namespace Go.Proofs.YtangdmjdjiddcaaDoor.field
open Go tree
set_option linter.unusedVariables false

def pathKey (p k : ByteArray) : ByteArray := if p.size = 0 then k else p ++ ⟨#[46]⟩ ++ k
def pathPlace (p : ByteArray) (i : Int) : ByteArray := p ++ ⟨#[91]⟩ ++ ⟨(Lib.itoa i).toArray⟩ ++ ⟨#[93]⟩
theorem nil_yes {p : ByteArray} (h : p.size = 0) : (p.toList == []) = true := by
  have e : p.toList = [] := List.isEmpty_iff.1 (empty_yes h)
  rw [e]
  rfl
theorem nil_no {p : ByteArray} (h : ¬ p.size = 0) : (p.toList == []) = false := by
  rw [beq_eq_false_iff_ne]
  intro e
  have := empty_no (f := p) (by omega)
  rw [e] at this
  cases this
theorem key_none {p : ByteArray} (k : ByteArray) (h : p.size = 0) : pathKey p k = k := if_pos h
theorem key_some {p : ByteArray} (k : ByteArray) (h : ¬ p.size = 0) : pathKey p k = p ++ ⟨#[46]⟩ ++ k := if_neg h
theorem key_size (p k : ByteArray) : (pathKey p k).size ≤ p.size + 1 + k.size := by
  unfold pathKey
  split
  · omega
  · rw [ByteArray.size_append, ByteArray.size_append]
    exact Nat.le_refl _
/-- A fault of a field: its code and its path. -/
abbrev Flt := Int × ByteArray
def good : Flt := (0, ⟨#[]⟩)
def fv (f : Flt) : Value := .agg #[.int .i64 f.1, .int .i64 0, .string f.2]
open Classical in
noncomputable def inL (s : ByteArray) (l : List ByteArray) : Bool := decide (s ∈ l)
theorem inL_t {s : ByteArray} {l : List ByteArray} (h : s ∈ l) : inL s l = true := by simp [inL, h]
theorem inL_f {s : ByteArray} {l : List ByteArray} (h : ¬ s ∈ l) : inL s l = false := by simp [inL, h]
open Classical in
noncomputable def knownL (ks : List ByteArray) (p : ByteArray) : List ByteArray → Flt
  | [] => good
  | k :: r => if k ∈ ks then knownL ks p r else (13, pathKey p k)
noncomputable def knownF (t : T) (p : ByteArray) (ks : List ByteArray) : Flt := if t.kind ≠ 6 then (11, p) else knownL ks p t.keys
theorem known_all {ks : List ByteArray} {p : ByteArray} : ∀ {l : List ByteArray}, (∀ q (h : q < l.length), l[q] ∈ ks) → knownL ks p l = good
  | [], _ => rfl
  | k :: r, h => by
    rw [knownL, if_pos (show k ∈ ks from h 0 (by simp))]
    exact known_all fun q hq => h (q + 1) (by simp; omega)
theorem known_no {ks : List ByteArray} {p : ByteArray} : ∀ {l : List ByteArray} {j : Nat} (hj : j < l.length), (∀ q (h : q < l.length), q < j → l[q] ∈ ks) → ¬ l[j] ∈ ks → knownL ks p l = (13, pathKey p l[j])
  | k :: r, 0, _, _, hn => by
    rw [knownL, if_neg (by simpa using hn)]
    rfl
  | k :: r, j + 1, hj, h, hn => by
    rw [knownL, if_pos (show k ∈ ks from h 0 (by simp) (by omega))]
    exact known_no (by simpa using hj) (fun q hq hqj => h (q + 1) (by simp; omega) (by omega)) (by simpa using hn)
def textF (t : T) (p k : ByteArray) : ByteArray × Flt :=
  if (kidOf t k).2 = false then (⟨#[]⟩, (12, pathKey p k)) else if (kidOf t k).1.kind ≠ 4 then (⟨#[]⟩, (11, pathKey p k)) else ((kidOf t k).1.text, good)
def wholeF (t : T) (p k : ByteArray) (least most usual : Int) : Int × Flt :=
  if (kidOf t k).2 = false then (usual, good) else if (kidOf t k).1.kind ≠ 3 then (0, (11, pathKey p k))
  else if ¬ (least ≤ (kidOf t k).1.num ∧ (kidOf t k).1.num ≤ most) then (0, (15, pathKey p k)) else ((kidOf t k).1.num, good)
/-- What becomes of a quantity that was read (its code: 1 wrong form, else out of range). -/
def amtF (r : Int × Int) (at_ : ByteArray) : Int × Flt := if r.2 = 1 then (0, (14, at_)) else if r.2 ≠ 0 then (0, (15, at_)) else (r.1, good)
def numF (n : Int) (at_ : ByteArray) : Int × Flt := if n < 0 then (0, (14, at_)) else match arith.mulF n 1000 with
  | none => (0, (15, at_))
  | some x => (x, good)
noncomputable def amountF (t : T) (p k : ByteArray) : Int × Flt :=
  if (kidOf t k).2 = false then (0, (12, pathKey p k)) else if (kidOf t k).1.kind = 4 then amtF (amount.readF (kidOf t k).1.text) (pathKey p k)
  else if (kidOf t k).1.kind = 3 then numF (kidOf t k).1.num (pathKey p k) else (0, (11, pathKey p k))
def listF (t : T) (p k : ByteArray) (most : Int) : List T × Flt :=
  if (kidOf t k).2 = false then ([], good) else if (kidOf t k).1.kind ≠ 5 then ([], (11, pathKey p k))
  else if most < ((kidOf t k).1.kids.length : Int) then ([], (16, pathKey p k)) else ((kidOf t k).1.kids, good)
def mapF (t : T) (p k : ByteArray) : T × Flt :=
  if (kidOf t k).2 = false then (.mk 6 false 0 ⟨#[]⟩ [] [], good) else if (kidOf t k).1.kind ≠ 6 then (zero, (11, pathKey p k)) else ((kidOf t k).1, good)
theorem keys_weight (t : T) : ∀ x ∈ t.keys, x.size ≤ weight t := by
  intro x hx
  cases t with
  | mk kk fl n s ks kids =>
    have h : ∀ l : List ByteArray, x ∈ l → x.size ≤ weightK l := by
      intro l
      induction l with
      | nil => intro h; cases h
      | cons a r ih =>
        intro h
        rw [weightK]
        rcases List.mem_cons.1 h with rfl | h
        · omega
        · have := ih h; omega
    have := h ks hx
    rw [weight]
    omega
theorem map_weight (t : T) (p k : ByteArray) : weight (mapF t p k).1 ≤ max 1 (weight t) := by
  have h := kidOf_weight t k
  have e1 : weight (.mk 6 false 0 ⟨#[]⟩ [] []) ≤ 1 := by decide
  have e2 : weight zero ≤ 1 := by decide
  unfold mapF
  split
  · simp only; omega
  · split
    · simp only; omega
    · simp only; omega
theorem list_weight (t : T) (p k : ByteArray) (most : Int) : (listF t p k most).1.length + weights (listF t p k most).1 ≤ weight t := by
  have h := kidOf_weight t k
  have e : weights [] = 0 := by simp [weights]
  unfold listF
  split
  · simp [e]
  · split
    · simp [e]
    · split
      · simp [e]
      · generalize (kidOf t k).1 = K at h ⊢
        cases K
        simp only [T.kids]
        rw [weight] at h
        omega
end Go.Proofs.YtangdmjdjiddcaaDoor.field
