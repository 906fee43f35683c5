/- A frame as a value; spec.FrameOk. -/
import Derived.Test.YtljahpngngmecaaDoorFrameM
import Derived.Test.YtljahpngngmecaaDoorInS
import Derived.Test.YtljahpngngmecaaDoorRows
import Derived.ProofKit
import Derived.OpenShut
import Derived.Deep.WholeRow
import Derived.Laws.ResultCell
namespace Go.Proofs.YtljahpngngmecaaDoor.frame
open Go.ChangeShapes Go.WideShapes Go.ChangeAt Go.RowKit
open crc fixed
set_option linter.unusedVariables false

/-- A frame as a value. -/
def frV (v : Int) (p : ByteArray) : Value := .agg #[.int .i64 v, .string p]
def rdV (r : (Int × ByteArray) × Int) : Value := .tuple #[frV r.1.1 r.1.2, .int .i64 r.2]

theorem spec_ok (v : Int) (p : ByteArray) (w : World) (hp : p.size ≤ maxLen) :
    Calls Tryd.prog 11 #[frV v p] w fun e w' => e = .returned (.bool (okF v p)) ∧ Below w.heap.size w w' := by
  unfold frV
  have hm := hp
  unfold maxLen at hm
  have hb : Below w.heap.size w (w.alloc (.cells #[.int .i64 v, .string p] 25)) := (Below.refl _ _).alloc (Nat.le_refl _) _
  by_cases h1 : 1 ≤ v ∧ v ≤ 9
  · have HI := Lib.hid (fun w => arith.in_yes v 1 9 w h1.1 h1.2)
    by_cases h2 : p.size ≤ 19980
    · rw [ok_yes h1.1 h1.2 h2]
      have h3 : decide ((p.size : Int) ≤ 19980) = true := by simp; omega
      go_enter Tryd.func11, Tryd.ntmps11
      go_wp2_with fail
      refine (HI.out _).mono ?_
      rintro e w1 ⟨rfl, rfl⟩
      go_wp2_with fail
      go_ret
      exact ⟨rfl, hb⟩
    · rw [ok_no (fun h => h2 h.2.2)]
      have h3 : decide ((p.size : Int) ≤ 19980) = false := by simp; omega
      go_enter Tryd.func11, Tryd.ntmps11
      go_wp2_with fail
      refine (HI.out _).mono ?_
      rintro e w1 ⟨rfl, rfl⟩
      go_wp2_with fail
      go_ret
      exact ⟨rfl, hb⟩
  · have HI := Lib.hid (fun w => arith.in_no v 1 9 w (by omega))
    rw [ok_no (fun h => h1 ⟨h.1, h.2.1⟩)]
    go_enter Tryd.func11, Tryd.ntmps11
    go_wp2_with fail
    refine (HI.out _).mono ?_
    rintro e w1 ⟨rfl, rfl⟩
    go_wp2_with fail
    go_ret
    exact ⟨rfl, hb⟩

theorem frame_info : (Tryd.prog.info? 25).map (·.size) = some 2 := by kernel_rfl
theorem frame_one (v : Int) (p : ByteArray) : (#[.int .i64 v, .string p] : Array Value).all (·.oneCell') = true := by simp [Value.oneCell']
/-- The results of a function that returns a frame through a cell, and a code. -/
theorem ret_frame {fn : Func} {c u : Tmp} {tmps : Array Value} {w : World} {g : Nat} {v k : Int} {p : ByteArray} (h : fn.results = #[.cell c 25, .tmp u])
    (hc : tmps.getD c undef = .pointer (some ⟨g, 0, none⟩)) (hu : tmps.getD u undef = .int .i64 k) (hg : w.heap[g]? = some (.cells #[.int .i64 v, .string p] 25 (0, 0))) :
    (results fn tmps).run Tryd.prog w = .ok (rdV ((v, p), k)) w := by
  have hl := run_loadVar_row (P := Tryd.prog) w g _ 25 #[.int .i64 v, .string p] (0, 0) _ hg Tryd.underlying25 rfl frame_info
  rw [results_cell_tmp h, hc, hu]
  simp [asAddr, Result.andThen, hl, rdV, frV]

end Go.Proofs.YtljahpngngmecaaDoor.frame
