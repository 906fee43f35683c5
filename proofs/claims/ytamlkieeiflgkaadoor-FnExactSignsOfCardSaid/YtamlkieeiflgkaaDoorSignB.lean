/- A token in memory: a block of four cells; a function that returns one through a cell, and a number. -/
import Derived.Test.YtamlkieeiflgkaaDoorSignM
import Derived.Test.YtamlkieeiflgkaaDoorRows
import Derived.ProofKit
import Derived.OpenShut
import Derived.Laws.ResultCell
import Derived.Laws.Rows
import Derived.Laws.Tables
namespace Go.Proofs.YtamlkieeiflgkaaDoor.sign
open Go.ChangeShapes Go.WideShapes Go.ChangeAt Go.RowKit
set_option linter.unusedVariables false

def sgC (g : Sg) : Array Value := #[.int .i64 g.kind, .string g.text, .int .i64 g.num, .int .i64 g.at_]
def sgV (g : Sg) : Value := .agg (sgC g)
def sgR (r : Sg × Int) : Value := .tuple #[sgV r.1, .int .i64 r.2]
theorem sign_info : (Tryd.prog.info? 30).map (·.size) = some 4 := by kernel_rfl
theorem sign_one (k n a : Int) (t : ByteArray) : (#[.int .i64 k, .string t, .int .i64 n, .int .i64 a] : Array Value).all (·.oneCell') = true := by simp [Value.oneCell']
theorem ret_sign {fn : Func} {c u : Tmp} {tmps : Array Value} {w : World} {g : Nat} {x : Sg} {k : Int} (h : fn.results = #[.cell c 30, .tmp u])
    (hc : tmps.getD c undef = .pointer (some ⟨g, 0, none⟩)) (hu : tmps.getD u undef = .int .i64 k) (hg : w.heap[g]? = some (.cells (sgC x) 30 (0, 0))) :
    (results fn tmps).run Tryd.prog w = .ok (sgR (x, k)) w := by
  have hl := run_loadVar_row (P := Tryd.prog) w g _ 30 (sgC x) (0, 0) _ hg Tryd.underlying30 rfl sign_info
  rw [results_cell_tmp h, hc, hu]
  simp [asAddr, Result.andThen, hl, sgR, sgV]
/-- The four cells. -/
theorem four_cells {w : World} {g : Nat} {a b c d : Value} {t : TypeId} (h : w.heap[g]? = some (.cells #[a, b, c, d] t (0, 0))) :
    (w.cell? ⟨g, 0, none⟩ = some a ∧ w.cell? ⟨g, 1, none⟩ = some b ∧ w.cell? ⟨g, 2, none⟩ = some c ∧ w.cell? ⟨g, 3, none⟩ = some d) ∧ w.frozen? ⟨g, 0, none⟩ = false ∧ w.frozen? ⟨g, 1, none⟩ = false ∧ w.frozen? ⟨g, 2, none⟩ = false ∧ w.frozen? ⟨g, 3, none⟩ = false := by
  refine ⟨⟨?_, ?_, ?_, ?_⟩, ?_, ?_, ?_, ?_⟩
  · rw [cell_of_row w g 0 _ t (0, 0) h]; rfl
  · rw [cell_of_row w g 1 _ t (0, 0) h]; rfl
  · rw [cell_of_row w g 2 _ t (0, 0) h]; rfl
  · rw [cell_of_row w g 3 _ t (0, 0) h]; rfl
  all_goals unfold World.frozen?; rw [h]; rfl
theorem set_four {w : World} {g : Nat} {a b c d : Value} {t : TypeId} (h : w.heap[g]? = some (.cells #[a, b, c, d] t (0, 0))) (x y z u : Value) :
    ((((w.setCell ⟨g, 0, none⟩ x).setCell ⟨g, 1, none⟩ y).setCell ⟨g, 2, none⟩ z).setCell ⟨g, 3, none⟩ u).heap[g]? = some (.cells #[x, y, z, u] t (0, 0)) := by
  simp [World.setCell, Array.getElem?_modify, h]
theorem set_0 {w : World} {g : Nat} {a b c d : Value} {t : TypeId} (h : w.heap[g]? = some (.cells #[a, b, c, d] t (0, 0))) (x : Value) : (w.setCell ⟨g, 0, none⟩ x).heap[g]? = some (.cells #[x, b, c, d] t (0, 0)) := by
  simp [World.setCell, Array.getElem?_modify, h]
theorem set_1 {w : World} {g : Nat} {a b c d : Value} {t : TypeId} (h : w.heap[g]? = some (.cells #[a, b, c, d] t (0, 0))) (x : Value) : (w.setCell ⟨g, 1, none⟩ x).heap[g]? = some (.cells #[a, x, c, d] t (0, 0)) := by
  simp [World.setCell, Array.getElem?_modify, h]
theorem set_2 {w : World} {g : Nat} {a b c d : Value} {t : TypeId} (h : w.heap[g]? = some (.cells #[a, b, c, d] t (0, 0))) (x : Value) : (w.setCell ⟨g, 2, none⟩ x).heap[g]? = some (.cells #[a, b, x, d] t (0, 0)) := by
  simp [World.setCell, Array.getElem?_modify, h]
theorem set_other {w : World} {g : Nat} {a : Addr} (h : a.block ≠ g) (x : Value) : (w.setCell a x).heap[g]? = w.heap[g]? := by
  unfold World.setCell
  split
  all_goals
    simp only [Array.getElem?_modify]
    rw [if_neg h]

/-- The word's bytes stand at p. -/
theorem told_iff (s : ByteArray) (p : Nat) (l : List UInt8) (hp : p ≤ s.size) : Told s p l ↔ l <+: s.data.toList.drop p := by
  have e : s.data.toList.length = s.size := by simp
  have hx : (s.extract p (p + l.length)).data.toList = (s.data.toList.drop p).take l.length := by
    rw [ByteArray.data_extract, Array.toList_extract, List.extract_eq_take_drop, Nat.add_sub_cancel_left]
  constructor
  · intro h
    have h1 : (s.extract p (p + l.length)).data.toList = l := by rw [h.2]
    rw [hx] at h1
    rw [← h1]
    exact List.take_prefix _ _
  · intro h
    have h1 := h.length_le
    rw [List.length_drop, e] at h1
    have h2 := List.prefix_iff_eq_take.1 h
    refine ⟨by omega, ?_⟩
    apply ByteArray.ext
    apply Array.ext'
    rw [hx, ← h2]
end Go.Proofs.YtamlkieeiflgkaaDoor.sign
