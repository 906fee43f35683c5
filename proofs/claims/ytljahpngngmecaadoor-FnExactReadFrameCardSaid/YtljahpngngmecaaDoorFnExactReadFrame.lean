/- FnExactReadFrame: the law returns true at every argument, in a world whose sentinels are what the program's text lays. -/
import Derived.Test.YtljahpngngmecaaDoorFrReadS
import Derived.Test.YtljahpngngmecaaDoorFrRdI
import Derived.Test.YtljahpngngmecaaDoorLawEqFrame
namespace Go.Proofs.YtljahpngngmecaaDoor.fnExactReadFrame
open Go.ChangeShapes Go.WideShapes Go.ChangeAt Go.RowKit
open frame
set_option linter.unusedVariables false

theorem walk (s : ByteArray) (W : World) (hs : s.size ≤ maxLen) (hS : Sent W) :
    Calls Tryd.prog 5 #[.string s] W fun e w' => e = .returned (.bool true) ∧ Below W.heap.size W w' := by
  have ms := hs
  unfold maxLen at ms
  by_cases ls : 1048576 < s.size
  · go_enter Tryd.func5, Tryd.ntmps5
    go_wp2_with fail
    go_ret
    exact ⟨rfl, Below.refl _ _⟩
  obtain ⟨a, hA⟩ := Sent.at_ hS
  have HS := Lib.hid (frame.spec_read s W hs)
  have HI := Lib.hid (fun w' (h : Below W.heap.size W w') => frame.impl_read s w' a (hA.below h) hs)
  clear hA hS
  generalize readF s = r at HS HI
  obtain ⟨⟨v, p⟩, k⟩ := r
  have HQ := Lib.hid (fun w => lawFrame.eq_yes v p w)
  unfold rdV at HS HI
  unfold frV at HS HI HQ
  go_enter Tryd.func5, Tryd.ntmps5
  go_wp2_with fail
  refine HS.out.mono ?_
  rintro e w1 ⟨rfl, hb1⟩
  have hbA : Below W.heap.size W (w1.alloc (.cells #[.int .i64 v, .string p] 25)) := hb1.alloc hb1.size _
  have hg1 := heap_alloc_new w1 (.cells #[.int .i64 v, .string p] 25)
  have hlt : w1.heap.size < (w1.alloc (.cells #[.int .i64 v, .string p] 25)).heap.size := by simp
  clear hb1
  have HbA := Lib.hid hbA
  have Hg1 := Lib.hid hg1
  clear hbA hg1
  go_wp2_with fail
  refine (HI.out _ HbA.out).mono ?_
  rintro e w2 ⟨rfl, hb2⟩
  have hbB : Below W.heap.size W (w2.alloc (.cells #[.int .i64 v, .string p] 25)) := (HbA.out.trans (hb2.mono HbA.out.size)).alloc (HbA.out.trans (hb2.mono HbA.out.size)).size _
  have hg2 : (w2.alloc (.cells #[.int .i64 v, .string p] 25)).heap[w1.heap.size]? = some (.cells #[.int .i64 v, .string p] 25 (0, 0)) := heap_kept ((Below.refl _ _).alloc (Nat.le_refl _) _) (Nat.lt_of_lt_of_le hlt hb2.size) (heap_kept hb2 hlt Hg1.out)
  have HbB := Lib.hid hbB
  clear hbB hb2 HI HbA Hg1
  obtain ⟨q0, q1, f0, f1⟩ := two_cells hg2
  go_wp2_with (first | (refine wpList_load_row rfl 25 _ rfl w1.heap.size rfl 25 #[.int .i64 v, .string p] (0, 0) _ hg2 Tryd.underlying25 rfl frame_info ?_) | fail)
  refine (HQ.out _).mono ?_
  rintro e w3 ⟨rfl, hb3⟩
  have HbC := Lib.hid (HbB.out.trans (hb3.mono HbB.out.size))
  clear hb3 HbB q0 q1 f0 f1 hg2
  go_wp2_with fail
  go_ret
  exact ⟨rfl, HbC.out⟩
end Go.Proofs.YtljahpngngmecaaDoor.fnExactReadFrame
