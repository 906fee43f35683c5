/- Quantities, plain: the suffixes and their units. -/
import Derived.Test.YtiibldfkefihlaaDoorBase
import Derived.Test.YtiibldfkefihlaaDoorArithM
namespace Go.Proofs.YtiibldfkefihlaaDoor.unit
open Go.ChangeShapes Go.WideShapes Go.ChangeAt Go.RowKit
set_option linter.unusedVariables false

def names : List (List UInt8) := [[], [109], [107], [77], [71], [84], [75, 105], [77, 105], [71, 105], [84, 105]]
def vals : List Int := [1000, 1, 1000000, 1000000000, 1000000000000, 1000000000000000, 1024000, 1048576000, 1073741824000, 1099511627776000]
def bytes (l : List UInt8) : ByteArray := ⟨l.toArray⟩
def texts : List ByteArray := names.map bytes
def find : List (List UInt8) → List Int → List UInt8 → Option Int
  | n :: ns, v :: vs, l => if n = l then some v else find ns vs l
  | _, _, _ => none
def unitL (l : List UInt8) : Option Int := find names vals l
def unitF (s : ByteArray) : Option Int := unitL s.data.toList
theorem find_none : ∀ (ns : List (List UInt8)) (vs : List Int) (l : List UInt8), (∀ n ∈ ns, n ≠ l) → find ns vs l = none
  | [], _, _, _ => by simp [find]
  | _ :: _, [], _, _ => by simp [find]
  | n :: ns, v :: vs, l, h => by
    rw [find, if_neg (h n (List.mem_cons_self ..))]
    exact find_none ns vs l (fun m hm => h m (List.mem_cons_of_mem _ hm))
theorem find_mem : ∀ (ns : List (List UInt8)) (vs : List Int) (l : List UInt8) (x : Int), find ns vs l = some x → x ∈ vs
  | [], _, _, _, h => by simp [find] at h
  | _ :: _, [], _, _, h => by simp [find] at h
  | n :: ns, v :: vs, l, x, h => by
    rw [find] at h
    split at h
    · injection h with h; subst h; exact List.mem_cons_self ..
    · exact List.mem_cons_of_mem _ (find_mem ns vs l x h)
theorem unit_bd {s : ByteArray} {x : Int} (h : unitF s = some x) : 0 < x ∧ x ≤ 1099511627776000 := by
  have := find_mem _ _ _ _ h
  simp only [vals, List.mem_cons, List.not_mem_nil, or_false] at this
  omega
theorem hit : ∀ i, i < 10 → unitL (names.getD i []) = some (vals.getD i 0) := by decide
theorem miss {l : List UInt8} (h : ∀ j, j < 10 → names.getD j [] ≠ l) : unitL l = none := by
  refine find_none _ _ _ fun n hn => ?_
  obtain ⟨j, hj, rfl⟩ := List.mem_iff_getElem.1 hn
  have := h j hj
  rwa [List.getD_eq_getElem?_getD, List.getElem?_eq_getElem hj] at this
theorem or_miss (l : List UInt8) : (∃ j, j < 10 ∧ names.getD j [] = l) ∨ (∀ j, j < 10 → names.getD j [] ≠ l) := by
  by_cases h : ∃ j, j < 10 ∧ names.getD j [] = l
  · exact .inl h
  · exact .inr fun j hj e => h ⟨j, hj, e⟩
theorem texts_get (j : Nat) (h : j < 10) : (scells texts)[j]? = some (.string (bytes (names.getD j []))) := by
  have hj : j < names.length := h
  simp [scells, texts, List.getElem?_map, List.getElem?_eq_getElem hj, List.getD]
theorem icells_vals (j : Nat) (h : j < 10) : (icells vals)[j]? = some (.int .i64 (vals.getD j 0)) := icells_get vals j h
theorem bytes_eq {s : ByteArray} {l : List UInt8} (h : bytes l = s) : l = s.data.toList := by rw [← h]; rfl
end Go.Proofs.YtiibldfkefihlaaDoor.unit
