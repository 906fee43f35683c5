/- Merged: FieldM PathKeyS PathKeyI. -/
import Derived.Test.YtangdmjdjiddcaaTreeM
import Derived.Test.YtangdmjdjiddcaaGA0
namespace Go.Proofs.Ytangdmjdjiddcaa.field
open Go tree
set_option linter.unusedVariables false

def pathKey (p k : ByteArray) : ByteArray := if p.size = 0 then k else p ++ ⟨#[46]⟩ ++ k
def pathPlace (p : ByteArray) (i : Int) : ByteArray := p ++ ⟨#[91]⟩ ++ ⟨(Lib.itoa i).toArray⟩ ++ ⟨#[93]⟩
theorem nil_yes {p : ByteArray} (h : p.size = 0) : (p.toList == []) = true := by
  have e : p.toList = [] := List.isEmpty_iff.1 (empty_yes h)
  rw [e]
  rfl
theorem nil_no {p : ByteArray} (h : ¬ p.size = 0) : (p.toList == []) = false := by
  rw [beq_eq_false_iff_ne]
  intro e
  have := empty_no (f := p) (by omega)
  rw [e] at this
  cases this
theorem key_none {p : ByteArray} (k : ByteArray) (h : p.size = 0) : pathKey p k = k := if_pos h
theorem key_some {p : ByteArray} (k : ByteArray) (h : ¬ p.size = 0) : pathKey p k = p ++ ⟨#[46]⟩ ++ k := if_neg h
theorem key_size (p k : ByteArray) : (pathKey p k).size ≤ p.size + 1 + k.size := by
  unfold pathKey
  split
  · omega
  · rw [ByteArray.size_append, ByteArray.size_append]
    exact Nat.le_refl _
/-- A fault of a field: its code and its path. -/
abbrev Flt := Int × ByteArray
def good : Flt := (0, ⟨#[]⟩)
def fv (f : Flt) : Value := .agg #[.int .i64 f.1, .int .i64 0, .string f.2]
open Classical in
noncomputable def inL (s : ByteArray) (l : List ByteArray) : Bool := decide (s ∈ l)
theorem inL_t {s : ByteArray} {l : List ByteArray} (h : s ∈ l) : inL s l = true := by simp [inL, h]
theorem inL_f {s : ByteArray} {l : List ByteArray} (h : ¬ s ∈ l) : inL s l = false := by simp [inL, h]
open Classical in
noncomputable def knownL (ks : List ByteArray) (p : ByteArray) : List ByteArray → Flt
  | [] => good
  | k :: r => if k ∈ ks then knownL ks p r else (13, pathKey p k)
noncomputable def knownF (t : T) (p : ByteArray) (ks : List ByteArray) : Flt := if t.kind ≠ 6 then (11, p) else knownL ks p t.keys
theorem known_all {ks : List ByteArray} {p : ByteArray} : ∀ {l : List ByteArray}, (∀ q (h : q < l.length), l[q] ∈ ks) → knownL ks p l = good
  | [], _ => rfl
  | k :: r, h => by
    rw [knownL, if_pos (show k ∈ ks from h 0 (by simp))]
    exact known_all fun q hq => h (q + 1) (by simp; omega)
theorem known_no {ks : List ByteArray} {p : ByteArray} : ∀ {l : List ByteArray} {j : Nat} (hj : j < l.length), (∀ q (h : q < l.length), q < j → l[q] ∈ ks) → ¬ l[j] ∈ ks → knownL ks p l = (13, pathKey p l[j])
  | k :: r, 0, _, _, hn => by
    rw [knownL, if_neg (by simpa using hn)]
    rfl
  | k :: r, j + 1, hj, h, hn => by
    rw [knownL, if_pos (show k ∈ ks from h 0 (by simp) (by omega))]
    exact known_no (by simpa using hj) (fun q hq hqj => h (q + 1) (by simp; omega) (by omega)) (by simpa using hn)
def textF (t : T) (p k : ByteArray) : ByteArray × Flt :=
  if (kidOf t k).2 = false then (⟨#[]⟩, (12, pathKey p k)) else if (kidOf t k).1.kind ≠ 4 then (⟨#[]⟩, (11, pathKey p k)) else ((kidOf t k).1.text, good)
def wholeF (t : T) (p k : ByteArray) (least most usual : Int) : Int × Flt :=
  if (kidOf t k).2 = false then (usual, good) else if (kidOf t k).1.kind ≠ 3 then (0, (11, pathKey p k))
  else if ¬ (least ≤ (kidOf t k).1.num ∧ (kidOf t k).1.num ≤ most) then (0, (15, pathKey p k)) else ((kidOf t k).1.num, good)
/-- What becomes of a quantity that was read (its code: 1 wrong form, else out of range). -/
def amtF (r : Int × Int) (at_ : ByteArray) : Int × Flt := if r.2 = 1 then (0, (14, at_)) else if r.2 ≠ 0 then (0, (15, at_)) else (r.1, good)
def numF (n : Int) (at_ : ByteArray) : Int × Flt := if n < 0 then (0, (14, at_)) else match arith.mulF n 1000 with
  | none => (0, (15, at_))
  | some x => (x, good)
noncomputable def amountF (t : T) (p k : ByteArray) : Int × Flt :=
  if (kidOf t k).2 = false then (0, (12, pathKey p k)) else if (kidOf t k).1.kind = 4 then amtF (amount.readF (kidOf t k).1.text) (pathKey p k)
  else if (kidOf t k).1.kind = 3 then numF (kidOf t k).1.num (pathKey p k) else (0, (11, pathKey p k))
def listF (t : T) (p k : ByteArray) (most : Int) : List T × Flt :=
  if (kidOf t k).2 = false then ([], good) else if (kidOf t k).1.kind ≠ 5 then ([], (11, pathKey p k))
  else if most < ((kidOf t k).1.kids.length : Int) then ([], (16, pathKey p k)) else ((kidOf t k).1.kids, good)
def mapF (t : T) (p k : ByteArray) : T × Flt :=
  if (kidOf t k).2 = false then (.mk 6 false 0 ⟨#[]⟩ [] [], good) else if (kidOf t k).1.kind ≠ 6 then (zero, (11, pathKey p k)) else ((kidOf t k).1, good)
theorem keys_weight (t : T) : ∀ x ∈ t.keys, x.size ≤ weight t := by
  intro x hx
  cases t with
  | mk kk fl n s ks kids =>
    have h : ∀ l : List ByteArray, x ∈ l → x.size ≤ weightK l := by
      intro l
      induction l with
      | nil => intro h; cases h
      | cons a r ih =>
        intro h
        rw [weightK]
        rcases List.mem_cons.1 h with rfl | h
        · omega
        · have := ih h; omega
    have := h ks hx
    rw [weight]
    omega
theorem map_weight (t : T) (p k : ByteArray) : weight (mapF t p k).1 ≤ max 1 (weight t) := by
  have h := kidOf_weight t k
  have e1 : weight (.mk 6 false 0 ⟨#[]⟩ [] []) ≤ 1 := by decide
  have e2 : weight zero ≤ 1 := by decide
  unfold mapF
  split
  · simp only; omega
  · split
    · simp only; omega
    · simp only; omega
theorem list_weight (t : T) (p k : ByteArray) (most : Int) : (listF t p k most).1.length + weights (listF t p k most).1 ≤ weight t := by
  have h := kidOf_weight t k
  have e : weights [] = 0 := by simp [weights]
  unfold listF
  split
  · simp [e]
  · split
    · simp [e]
    · split
      · simp [e]
      · generalize (kidOf t k).1 = K at h ⊢
        cases K
        simp only [T.kids]
        rw [weight] at h
        omega
end Go.Proofs.Ytangdmjdjiddcaa.field
namespace Go.Proofs.Ytangdmjdjiddcaa.field
open Go.ChangeShapes Go.WideShapes Go.ChangeAt Go.RowKit
set_option linter.unusedVariables false

theorem spec_key (p k : ByteArray) (w : World) (hp : p.size ≤ 1048576) (hk : k.size ≤ 1048576) :
    Calls Try.prog 5 #[.string p, .string k] w fun e w' => e = .returned (.string (pathKey p k)) ∧ w = w' := by
  by_cases h : p.size = 0
  · have he : (p.toList == []) = true := nil_yes h
    rw [key_none k h]
    clear h hp hk
    go_enter Try.func5, Try.ntmps5
    go_wp2_with fail
    go_ret
    exact ⟨rfl, rfl⟩
  have he : (p.toList == []) = false := nil_no h
  have h1 : ¬ 9223372036854775807 < p.size + 1 := by omega
  have h2 : ¬ 9223372036854775807 < p.size + 1 + k.size := by omega
  rw [key_some k h]
  clear h hp hk
  go_enter Try.func5, Try.ntmps5
  go_wp2_with fail
  go_ret
  exact ⟨rfl, rfl⟩
end Go.Proofs.Ytangdmjdjiddcaa.field
namespace Go.Proofs.Ytangdmjdjiddcaa.field
open Go.ChangeShapes Go.WideShapes Go.ChangeAt Go.RowKit
set_option linter.unusedVariables false

theorem impl_key (p k : ByteArray) (w : World) (hp : p.size ≤ 1048576) (hk : k.size ≤ 1048576) :
    Calls Try.prog 6 #[.string p, .string k] w fun e w' => e = .returned (.string (pathKey p k)) ∧ w = w' := by
  by_cases h : p.size = 0
  · have he : (p.toList == []) = true := nil_yes h
    rw [key_none k h]
    clear h hp hk
    go_enter Try.func6, Try.ntmps6
    go_wp2_with fail
    go_ret
    exact ⟨rfl, rfl⟩
  have he : (p.toList == []) = false := nil_no h
  have h1 : ¬ 9223372036854775807 < p.size + 1 := by omega
  have h2 : ¬ 9223372036854775807 < p.size + 1 + k.size := by omega
  rw [key_some k h]
  clear h hp hk
  go_enter Try.func6, Try.ntmps6
  go_wp2_with fail
  go_ret
  exact ⟨rfl, rfl⟩
end Go.Proofs.Ytangdmjdjiddcaa.field
