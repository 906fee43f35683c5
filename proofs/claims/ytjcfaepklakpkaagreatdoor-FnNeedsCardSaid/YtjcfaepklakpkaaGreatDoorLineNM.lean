/- A requirement's line, put together step by step: plain. -/
import Derived.Test.YtjcfaepklakpkaaGreatDoorGNeedP
import Derived.Test.YtjcfaepklakpkaaGreatDoorGLabP
namespace Go.Proofs.YtjcfaepklakpkaaGreatDoor.need
open Go Go.RowKit ty lab
set_option linter.unusedVariables false

def opS (k : Nat) : ByteArray := if k = 1 then ⟨#[105, 110]⟩ else if k = 2 then ⟨#[110, 111, 116, 105, 110]⟩ else if k = 3 then ⟨#[104, 97, 115]⟩ else ⟨#[104, 97, 115, 110, 111, 116]⟩
theorem opS_list {k : Nat} (h1 : 1 ≤ k) (h4 : k ≤ 4) : (opS k).data.toList = opB (k : Int) := by
  have : k = 1 ∨ k = 2 ∨ k = 3 ∨ k = 4 := by omega
  rcases this with rfl | rfl | rfl | rfl <;> rfl
theorem opS_size (k : Nat) : (opS k).size ≤ 6 := by
  unfold opS
  split
  · decide
  split
  · decide
  split
  · decide
  decide
def opsL : List Value := [.string ⟨#[]⟩, .string ⟨#[105, 110]⟩, .string ⟨#[110, 111, 116, 105, 110]⟩, .string ⟨#[104, 97, 115]⟩, .string ⟨#[104, 97, 115, 110, 111, 116]⟩]
theorem opsL_at {k : Nat} (h1 : 1 ≤ k) (h4 : k ≤ 4) : opsL[k]? = some (.string (opS k)) := by
  have : k = 1 ∨ k = 2 ∨ k = 3 ∨ k = 4 := by omega
  rcases this with rfl | rfl | rfl | rfl <;> rfl
/-- What has been written behind j values. -/
def lineTo (x : Need) (j : Nat) : List UInt8 := x.key.data.toList ++ 32 :: opB x.op ++ (if j = 0 then [] else 32 :: valsB (x.values.take j))
theorem lineTo_zero (x : Need) (k : Nat) (hk : x.op = (k : Int)) (h1 : 1 ≤ k) (h4 : k ≤ 4) : ((x.key ++ ⟨#[32]⟩) ++ opS k).data.toList = lineTo x 0 := by
  unfold lineTo
  rw [if_pos rfl, hk, ← opS_list h1 h4]
  simp only [cat_toList]
  simp
theorem lineTo_first {x : Need} (h : 0 < x.values.length) {s : ByteArray} (hs : s.data.toList = lineTo x 0) : ((s ++ ⟨#[32]⟩) ++ x.values[0]).data.toList = lineTo x 1 := by
  simp only [cat_toList]
  rw [hs]
  unfold lineTo
  rw [if_pos rfl, if_neg (by decide)]
  have e : x.values.take 1 = [x.values[0]] := by
    rw [show (1 : Nat) = 0 + 1 from rfl, ← List.take_append_getElem h]
    simp
  rw [e, valsB]
  simp
theorem lineTo_more {x : Need} {j : Nat} (hj : 0 < j) (h : j < x.values.length) {s : ByteArray} (hs : s.data.toList = lineTo x j) : ((s ++ ⟨#[44]⟩) ++ x.values[j]).data.toList = lineTo x (j + 1) := by
  simp only [cat_toList]
  rw [hs]
  unfold lineTo
  rw [if_neg (by omega), if_neg (by omega), ← List.take_append_getElem h, valsB_snoc, if_neg (by
    intro e
    have := congrArg List.length e
    rw [List.length_take, List.length_nil, Nat.min_eq_left (by omega)] at this
    omega)]
  simp
theorem lineTo_all (x : Need) (s : ByteArray) (hs : s.data.toList = lineTo x x.values.length) (h : NeedP x) : s = lineN x := by
  rw [lineN_yes h]
  apply ByteArray.ext
  apply Array.ext'
  rw [hs]
  unfold lineTo
  rw [List.take_length]
  by_cases e : x.values = []
  · rw [e]; simp
  · have : x.values.length ≠ 0 := fun h => e (List.length_eq_zero_iff.1 h)
    rw [if_neg this, if_neg e]
theorem valsB_len {M : Nat} : ∀ l : List ByteArray, (∀ x ∈ l, x.size ≤ M) → (valsB l).length ≤ l.length * (M + 1)
  | [], _ => by simp [valsB]
  | [x], h => by
    have := h x List.mem_cons_self
    simp only [valsB, Array.length_toList, List.length_cons, List.length_nil]
    change x.data.size ≤ _
    change x.data.size ≤ M at this
    omega
  | x :: y :: r, h => by
    have h1 := h x List.mem_cons_self
    have ih := valsB_len (y :: r) (fun z hz => h z (List.mem_cons_of_mem _ hz))
    rw [valsB]
    simp only [List.length_append, List.length_cons, Array.length_toList] at ih ⊢
    change x.data.size ≤ M at h1
    have e : (r.length + 1 + 1) * (M + 1) = (r.length + 1) * (M + 1) + (M + 1) := by rw [Nat.add_mul (r.length + 1)]; simp
    omega
theorem opB_len (n : Int) : (opB n).length ≤ 6 := by
  unfold opB
  split
  · decide
  split
  · decide
  split <;> decide
theorem lineTo_len {x : Need} (h : NeedP x) (hw : x.wt ≤ 1048576) (j : Nat) : (lineTo x j).length ≤ 8000000 := by
  have hk := wt_key x
  have hn : x.values.length ≤ 4 := by
    by_cases h3 : 3 ≤ x.op
    · rw [h.none h3]; omega
    · exact (h.some (by omega)).2.1
  have hv := valsB_len (M := 1048576) (x.values.take j) (fun y hy => by
    obtain ⟨k, hk, rfl⟩ := List.getElem_of_mem (List.mem_of_mem_take hy)
    have := wt_val hk
    omega)
  have ht : (x.values.take j).length ≤ 4 := by rw [List.length_take]; omega
  have ho := opB_len x.op
  have e : (x.values.take j).length * (1048576 + 1) ≤ 4 * 1048577 := Nat.mul_le_mul ht (by decide)
  change x.key.data.size ≤ _ at hk
  unfold lineTo
  by_cases hj : j = 0
  · rw [if_pos hj]
    simp only [List.length_append, List.length_cons, List.length_nil, Array.length_toList]
    omega
  · rw [if_neg hj]
    simp only [List.length_append, List.length_cons, Array.length_toList]
    omega
theorem size_of {s : ByteArray} {l : List UInt8} (h : s.data.toList = l) : s.size = l.length := by rw [← h, Array.length_toList]; rfl
end Go.Proofs.YtjcfaepklakpkaaGreatDoor.need
