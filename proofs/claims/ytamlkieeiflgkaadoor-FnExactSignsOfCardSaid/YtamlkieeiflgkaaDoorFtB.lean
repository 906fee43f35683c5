/- A fault in memory: a block of three cells; a function that returns a slice and, through a cell, a fault. -/
import Derived.Test.YtamlkieeiflgkaaDoorSignM
import Derived.Test.YtamlkieeiflgkaaDoorSignsM
import Derived.Test.YtamlkieeiflgkaaDoorRows
import Derived.ProofKit
import Derived.OpenShut
import Derived.Laws.ResultCell
import Derived.Laws.Rows
import Derived.Laws.Tables
namespace Go.Proofs.YtamlkieeiflgkaaDoor.sign
open Go.ChangeShapes Go.WideShapes Go.ChangeAt Go.RowKit
set_option linter.unusedVariables false

def fC (f : Ft) : Array Value := #[.int .i64 f.code, .int .i64 f.at_, .string f.path]
def fV (f : Ft) : Value := .agg (fC f)
def f0 : Ft := ⟨0, 0, ⟨#[]⟩⟩
theorem fault_info : (Tryd.prog.info? 36).map (·.size) = some 3 := by kernel_rfl
theorem fault_one (k a : Int) (p : ByteArray) : (#[.int .i64 k, .int .i64 a, .string p] : Array Value).all (·.oneCell') = true := by simp [Value.oneCell']
theorem ret_all {fn : Func} {c u : Tmp} {tmps : Array Value} {w : World} {g : Nat} {f : Ft} {v : Value} (h : fn.results = #[.tmp u, .cell c 36])
    (hu : tmps.getD u undef = v) (hc : tmps.getD c undef = .pointer (some ⟨g, 0, none⟩)) (hg : w.heap[g]? = some (.cells (fC f) 36 (0, 0))) :
    (results fn tmps).run Tryd.prog w = .ok (.tuple #[v, fV f]) w := by
  have hl := run_loadVar_row (P := Tryd.prog) w g _ 36 (fC f) (0, 0) _ hg Tryd.underlying36 rfl fault_info
  have hu' : tmps[u]?.getD undef = v := by simpa using hu
  have hc' : tmps[c]?.getD undef = .pointer (some ⟨g, 0, none⟩) := by simpa using hc
  simp [results, h, hu', hc', asAddr, hl, fV]
theorem three_cells {w : World} {g : Nat} {a b c : Value} {t : TypeId} (h : w.heap[g]? = some (.cells #[a, b, c] t (0, 0))) :
    (w.cell? ⟨g, 0, none⟩ = some a ∧ w.cell? ⟨g, 1, none⟩ = some b ∧ w.cell? ⟨g, 2, none⟩ = some c) ∧ w.frozen? ⟨g, 0, none⟩ = false ∧ w.frozen? ⟨g, 1, none⟩ = false ∧ w.frozen? ⟨g, 2, none⟩ = false := by
  refine ⟨⟨?_, ?_, ?_⟩, ?_, ?_, ?_⟩
  · rw [cell_of_row w g 0 _ t (0, 0) h]; rfl
  · rw [cell_of_row w g 1 _ t (0, 0) h]; rfl
  · rw [cell_of_row w g 2 _ t (0, 0) h]; rfl
  all_goals unfold World.frozen?; rw [h]; rfl
theorem set_three {w : World} {g : Nat} {a b c : Value} {t : TypeId} (h : w.heap[g]? = some (.cells #[a, b, c] t (0, 0))) (x y z : Value) :
    (((w.setCell ⟨g, 0, none⟩ x).setCell ⟨g, 1, none⟩ y).setCell ⟨g, 2, none⟩ z).heap[g]? = some (.cells #[x, y, z] t (0, 0)) := by
  simp [World.setCell, Array.getElem?_modify, h]
theorem TrydinfoS : (Tryd.prog.info? 30).map (fun i => (i.zero, i.size, i.bytes)) = some (some (.agg #[.int .i64 0, .string ⟨#[]⟩, .int .i64 0, .int .i64 0]), 4, 40) := by kernel_rfl
theorem info4 {P : Program} {T : TypeId} {z : Value} {n b : Nat} (h : (P.info? T).map (fun i => (i.zero, i.size, i.bytes)) = some (some z, n, b)) : ∃ i, P.info? T = some i ∧ i.zero = some z ∧ i.size = n ∧ i.bytes = b := by
  cases hi : P.info? T with
  | none => rw [hi] at h; cases h
  | some i =>
    rw [hi] at h
    simp only [Option.map_some, Option.some.injEq, Prod.mk.injEq] at h
    exact ⟨i, rfl, h.1, h.2.1, h.2.2⟩
theorem own_keeps {w w' : World} {B : Nat} {e : TypeId} {v : Value} {n k : Nat} {xs : List Value} (h : w.ownsRow B e k v n xs) (hb : Below w.heap.size w w') : w'.ownsRow B e k v n xs :=
  h.kept (grown_of_below hb none) (by
    by_cases hv : v.ownBlock = none
    · exact .inl hv
    · exact .inr hv)
theorem own_down {w : World} {B B' : Nat} {e : TypeId} {v : Value} {n k : Nat} {xs : List Value} (h : w.ownsRow B e k v n xs) (hB : B' ≤ B) : w.ownsRow B' e k v n xs := by
  refine ⟨h.1, ?_⟩
  rcases h.2 with h | ⟨g, cap, cur, h1, h2, rest⟩
  · exact .inl h
  · exact .inr ⟨g, cap, cur, h1, by omega, rest⟩
theorem own_setRow {w : World} {B g : Nat} {e : TypeId} {v : Value} {n k : Nat} {xs : List Value} (h : w.ownsRow B e k v n xs) (hg : g < B) (c : Array Value) : (w.setRow g c).ownsRow B e k v n xs := by
  have hgr : w.grownBy (w.setRow g c) (some g) := ⟨rfl, rfl, rfl, by simp [World.setRow], fun k _ hk => setRow_other w g k _ (fun e => hk (by rw [e]))⟩
  refine h.kept hgr ?_
  by_cases hv : v.ownBlock = none
  · exact .inl hv
  · exact .inr (fun e => by have := (h.lt g e).1; omega)
theorem own_none {w : World} {B g : Nat} {e : TypeId} {k : Nat} (hg : B ≤ g) (h : w.heap[g]? = some (.cells #[] e (0, 0))) : w.ownsRow B e k (.slice (some ⟨g, 0, none⟩) 0 0) 0 [] :=
  ⟨by simp, .inr ⟨g, 0, #[], rfl, hg, h, Nat.le_refl _, Nat.zero_le _, by simp, by simp⟩⟩
/-- A block beside the one that grew. -/
theorem heap_grown {w w' : World} {B g : Nat} {e : TypeId} {v : Value} {n k : Nat} {xs : List Value} {o : Obj} (h : w.ownsRow B e k v n xs) (hB : g < B) (hg : w.grownBy w' v.ownBlock) (ho : w.heap[g]? = some o) : w'.heap[g]? = some o := by
  rw [hg.block g (Array.getElem?_eq_some_iff.1 ho).1 (fun hv => by have := (h.lt g hv.symm).1; omega)]
  exact ho
/-- What both return: a list of the call's own, and a fault. -/
def Signs (s : ByteArray) (w : World) (e : Ending) (w' : World) : Prop :=
  ∃ v, e = .returned (.tuple #[v, fV (allF s).2]) ∧ w'.ownsRow w.heap.size 30 4 v (allF s).1.length (rowsL (allF s).1) ∧ Below w.heap.size w w'
end Go.Proofs.YtamlkieeiflgkaaDoor.sign
