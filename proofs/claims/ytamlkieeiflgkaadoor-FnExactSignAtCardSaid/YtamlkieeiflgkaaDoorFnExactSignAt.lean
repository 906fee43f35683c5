/- FnExactSignAt: the law returns true at every argument. -/
import Derived.Test.YtamlkieeiflgkaaDoorSignS
import Derived.Test.YtamlkieeiflgkaaDoorSignI
import Derived.Test.YtamlkieeiflgkaaDoorLawEqSign
namespace Go.Proofs.YtamlkieeiflgkaaDoor.fnExactSignAt
open Go.ChangeShapes Go.WideShapes Go.ChangeAt Go.RowKit
open sign
set_option linter.unusedVariables false

theorem walk (s : ByteArray) (a : Int) (W : World) (hs : s.size ≤ maxLen) (ha : (Lit.int .i64 a).wf = true) (hT : rune.Tabs W) (hRg : whole.ErrVar W "strconv.ErrRange") (hE : readq.ErrVar W "strconv.ErrSyntax") :
    Calls Tryd.prog 6 #[.string s, .int .i64 a] W fun e w' => e = .returned (.bool true) ∧ Below W.heap.size W w' := by
  have ba := i64_bd ha
  have ms := hs
  unfold maxLen at ms
  by_cases ls : 1048576 < s.size
  · clear hT hE hRg
    go_enter Tryd.func6, Tryd.ntmps6
    go_wp2_with fail
    go_ret
    exact ⟨rfl, Below.refl _ _⟩
  have hs9 : s.size ≤ 1048576 := by omega
  have HS := Lib.hid (spec_sign s a W hs9 ba.1 ba.2)
  have HI := Lib.hid (fun w' (h : Below W.heap.size W w') => impl_sign s a w' hs9 (hT.below h) (hE.below h) (hRg.below h))
  clear hT hE hRg
  generalize signF s a = r at HS HI
  obtain ⟨⟨k, t, n, b⟩, y⟩ := r
  have HQ := Lib.hid (fun w => lawSign.eq_yes ⟨k, t, n, b⟩ w)
  unfold sgR sgV sgC at HS HI
  unfold sgV sgC at HQ
  simp only at HS HI HQ
  go_enter Tryd.func6, Tryd.ntmps6
  go_wp2_with fail
  refine HS.out.mono ?_
  rintro e w1 ⟨rfl, hb1⟩
  have hbA : Below W.heap.size W (w1.alloc (.cells #[.int .i64 k, .string t, .int .i64 n, .int .i64 b] 30)) := hb1.alloc hb1.size _
  have hg1 := heap_alloc_new w1 (.cells #[.int .i64 k, .string t, .int .i64 n, .int .i64 b] 30)
  have hlt : w1.heap.size < (w1.alloc (.cells #[.int .i64 k, .string t, .int .i64 n, .int .i64 b] 30)).heap.size := by simp
  clear hb1
  have HbA := Lib.hid hbA
  have Hg1 := Lib.hid hg1
  clear hbA hg1
  go_wp2_with fail
  refine (HI.out _ HbA.out).mono ?_
  rintro e w2 ⟨rfl, hb2⟩
  have hbB : Below W.heap.size W (w2.alloc (.cells #[.int .i64 k, .string t, .int .i64 n, .int .i64 b] 30)) := (HbA.out.trans (hb2.mono HbA.out.size)).alloc (HbA.out.trans (hb2.mono HbA.out.size)).size _
  have hg2 : (w2.alloc (.cells #[.int .i64 k, .string t, .int .i64 n, .int .i64 b] 30)).heap[w1.heap.size]? = some (.cells #[.int .i64 k, .string t, .int .i64 n, .int .i64 b] 30 (0, 0)) := heap_kept ((Below.refl _ _).alloc (Nat.le_refl _) _) (Nat.lt_of_lt_of_le hlt hb2.size) (heap_kept hb2 hlt Hg1.out)
  have HbB := Lib.hid hbB
  clear hbB hb2 HI HbA Hg1
  obtain ⟨⟨q0, q1, q2, q3⟩, f0, f1, f2, f3⟩ := four_cells hg2
  go_wp2_with (first | (refine wpList_load_row rfl 30 _ rfl w1.heap.size rfl 30 #[.int .i64 k, .string t, .int .i64 n, .int .i64 b] (0, 0) _ hg2 Tryd.underlying30 rfl sign_info ?_) | fail)
  refine (HQ.out _).mono ?_
  rintro e w3 ⟨rfl, hb3⟩
  have HbC := Lib.hid (HbB.out.trans (hb3.mono HbB.out.size))
  clear hb3 HbB q0 q1 q2 q3 f0 f1 f2 f3 hg2
  go_wp2_with fail
  go_ret
  exact ⟨rfl, HbC.out⟩
end Go.Proofs.YtamlkieeiflgkaaDoor.fnExactSignAt
