/- A fault in memory, and what is handed back beside it. -/
import Derived.Test.YtangdmjdjiddcaaGreatDoorGA5
namespace Go.Proofs.YtangdmjdjiddcaaGreatDoor.field
open Go.ChangeShapes Go.WideShapes Go.ChangeAt Go.RowKit
set_option linter.unusedVariables false

theorem sizeFault : (Tryz.prog.info? 31).map (·.size) = some 3 := by kernel_rfl
theorem ret_vf {fn : Func} {c u : Tmp} {tmps : Array Value} {w : World} {g : Nat} {f : Flt} {v : Value} (h : fn.results = #[.tmp u, .cell c 31])
    (hu : tmps.getD u undef = v) (hc : tmps.getD c undef = .pointer (some ⟨g, 0, none⟩)) (hg : w.heap[g]? = some (.cells #[.int .i64 f.1, .int .i64 0, .string f.2] 31 (0, 0))) :
    (results fn tmps).run Tryz.prog w = .ok (.tuple #[v, fv f]) w := by
  have hl := run_loadVar_row (P := Tryz.prog) w g _ 31 #[.int .i64 f.1, .int .i64 0, .string f.2] (0, 0) _ hg Tryz.underlying31 rfl sizeFault
  have hu' : tmps[u]?.getD undef = v := by simpa using hu
  have hc' : tmps[c]?.getD undef = .pointer (some ⟨g, 0, none⟩) := by simpa using hc
  simp [results, h, hu', hc', asAddr, hl, fv]
theorem ret_cf {fn : Func} {c d : Tmp} {tmps : Array Value} {w : World} {g g2 : Nat} {f : Flt} {vs : Array Value} (h : fn.results = #[.cell d 27, .cell c 31])
    (hd : tmps.getD d undef = .pointer (some ⟨g2, 0, none⟩)) (hg2 : w.heap[g2]? = some (.cells vs 27 (0, 0))) (hsz : vs.size = 6)
    (hc : tmps.getD c undef = .pointer (some ⟨g, 0, none⟩)) (hg : w.heap[g]? = some (.cells #[.int .i64 f.1, .int .i64 0, .string f.2] 31 (0, 0))) :
    (results fn tmps).run Tryz.prog w = .ok (.tuple #[.agg vs, fv f]) w := by
  have hl := run_loadVar_row (P := Tryz.prog) w g _ 31 #[.int .i64 f.1, .int .i64 0, .string f.2] (0, 0) _ hg Tryz.underlying31 rfl sizeFault
  have hl2 := run_loadVar_row (P := Tryz.prog) w g2 _ 27 vs (0, 0) _ hg2 Tryz.underlying27 rfl (by rw [hsz]; exact tree.tree_size')
  have e : (results fn tmps).run Tryz.prog w = ((asAddr (tmps.getD d undef)).run Tryz.prog w).andThen fun a w1 => ((loadVar 27 a).run Tryz.prog w1).andThen fun v w2 => ((asAddr (tmps.getD c undef)).run Tryz.prog w2).andThen fun b w3 => ((loadVar 31 b).run Tryz.prog w3).andThen fun u w4 => .ok (.tuple #[v, u]) w4 := by
    simp only [results, h]
    simp [Sem.run_bind, Result.andThen]
  rw [e, hc, hd]
  simp [asAddr, Result.andThen, hl, hl2, fv]
/-- A tree of the call's own and a fault. -/
def TFOut (B : Nat) (r : tree.T × Flt) (e : Ending) (w' : World) : Prop := ∃ f us F, e = .returned (.tuple #[.agg us.toArray, fv r.2]) ∧ OwnS w' B f us (tree.row r.1) F ∧ F.Nodup
/-- A list of trees of the call's own and a fault. -/
def LFOut (B : Nat) (r : List tree.T × Flt) (e : Ending) (w' : World) : Prop := ∃ f v F, e = .returned (.tuple #[v, fv r.2]) ∧ Own w' B f v (.sl 6 r.1.length (tree.rows r.1)) F ∧ F.Nodup
theorem own_empty {w : World} {B g : Nat} {e : TypeId} {k : Nat} (hg : B ≤ g) (h : w.heap[g]? = some (.cells #[] e (0, 0))) : w.ownsRow B e k (.slice (some ⟨g, 0, none⟩) 0 0) 0 [] :=
  ⟨by simp, .inr ⟨g, 0, #[], rfl, hg, h, Nat.le_refl _, Nat.zero_le _, by simp, by simp⟩⟩
/-- A block beside the one that grew. -/
theorem own_none6 {w : World} {B g : Nat} {e : TypeId} (hg : B ≤ g) (h : w.heap[g]? = some (.cells #[] e (0, 0))) : ∃ F, Own w B 1 (.slice (some ⟨g, 0, none⟩) 0 0) (.sl 6 0 []) F ∧ F.Nodup := by
  obtain ⟨F, h1, h2, _⟩ := (OwnRow.of_lit (f := 0) (own_empty (k := 6) hg h)).own
  exact ⟨F, h1, h2⟩
end Go.Proofs.YtangdmjdjiddcaaGreatDoor.field
