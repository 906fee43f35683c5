/- impl.Inline. -/
import Derived.Test.YtegpcjkcejijpaaGreatDoorGBare
import Derived.Test.YtegpcjkcejijpaaGreatDoorGRi
namespace Go.Proofs.YtegpcjkcejijpaaGreatDoor.line
open Go.ChangeShapes Go.WideShapes Go.ChangeAt Go.RowKit tree
set_option linter.unusedVariables false

set_option maxRecDepth 100000 in
set_option maxHeartbeats 4000000 in
theorem impl_inl (s : ByteArray) (w : World) (hs : s.size ≤ 1048576) (hT : rune.Tabs w) (hE : readq.ErrVar w "strconv.ErrSyntax") (hR : whole.ErrVar w "strconv.ErrRange") (hM : MaxL w) :
    Calls Tryz.prog 22 #[.string s] w (RsOut (inlineF s) w) := by
  obtain ⟨w1, hw1⟩ : ∃ w1, w1 = w.alloc (.cells #[.int .i64 0, .bool false, .int .i64 0, .string ⟨#[]⟩, .slice none 0 0, .slice none 0 0] 34) := ⟨_, rfl⟩
  have hb1 : Below w.heap.size w w1 := by rw [hw1]; exact (Below.refl _ _).alloc (Nat.le_refl _) _
  have hrow1 : w1.heap[w.heap.size]? = some (.cells #[.int .i64 0, .bool false, .int .i64 0, .string ⟨#[]⟩, .slice none 0 0, .slice none 0 0] 34 (0, 0)) := by rw [hw1]; exact heap_alloc_new w _
  have HB := Lib.hid (impl_bare s w1 hs)
  have hbz : (bare s).size ≤ 1048576 := by rw [bare_size]; have := bare_le s; omega
  have htz : (trimL (bare s)).size ≤ 1048576 := by rw [trimL_size]; omega
  have HR := Lib.hid (impl_rs (trimL (bare s)) w1 htz (hT.below hb1) (hE.below hb1) (hR.below hb1) (hM.below hb1))
  have hlf := out_leaf (trimL (bare s))
  have hdef : inlineF s = scalarF (trimL (bare s)) := rfl
  rw [hdef]
  clear hdef
  generalize hR9 : scalarF (trimL (bare s)) = R at HR hlf
  clear hR9
  have HI := Lib.hid (impl_without (bare s) w1)
  generalize trimL (bare s) = t at HR htz HI
  generalize bare s = b at HB HI hbz
  have Hb1 := Lib.hid hb1
  have Hrow1 := Lib.hid hrow1
  have Hw1 := Lib.hid hw1
  unfold RsOut at HR ⊢
  generalize (outT R).kind = k at HR
  generalize (outT R).flag = f at HR
  generalize (outT R).num = n at HR
  generalize (outT R).text = x at HR
  generalize R.isSome = bb at HR
  clear hb1 hrow1 hw1 hlf hT hE hR hM
  go_enter Tryz.func22, Tryz.ntmps22
  go_wp2_with fail
  rw [← Hw1.out]
  refine HB.out.mono ?_
  rintro e w2 ⟨rfl, rfl⟩
  clear HB
  go_wp2_with fail
  refine HI.out.mono ?_
  rintro e w2 ⟨rfl, rfl⟩
  clear HI
  go_wp2_with fail
  refine HR.out.mono ?_
  rintro e w2 ⟨rfl, hb2⟩
  have Hb2 := Lib.hid (below_link Hb1.out hb2 Hb1.out.size)
  have h2 := heap_kept hb2 (heap_lt Hrow1.out) Hrow1.out
  have H2 := Lib.hid h2
  clear HR hb2 Hb1 Hrow1 Hw1
  go_wp2_with (first | (refine wpList_store_row rfl 34 _ _ rfl w.heap.size #[.int .i64 k, .bool f, .int .i64 n, .string x, .slice none 0 0, .slice none 0 0] rfl rfl 34 _ h2 tree_size' rfl (by simp [Value.oneCell']) ?_) | fail)
  refine bodyPost_ret (v := .tuple #[.agg #[.int .i64 k, .bool f, .int .i64 n, .string x, .slice none 0 0, .slice none 0 0], .bool bb]) ?_ rfl ⟨rfl, setRow_below Hb2.out (Nat.le_refl _) _⟩
  exact ret_leaf rfl rfl rfl rfl (setRow_at H2.out)
end Go.Proofs.YtegpcjkcejijpaaGreatDoor.line
