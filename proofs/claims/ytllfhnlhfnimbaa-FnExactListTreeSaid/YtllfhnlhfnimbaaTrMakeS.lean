/- spec.TextTree, spec.IntTree, spec.ListTree, spec.KidOf. -/
import Derived.Test.YtllfhnlhfnimbaaTrCopyS
import Derived.Test.YtllfhnlhfnimbaaGA3
namespace Go.Proofs.Ytllfhnlhfnimbaa.tree
open Go.ChangeShapes Go.WideShapes Go.ChangeAt Go.RowKit
set_option linter.unusedVariables false

theorem spec_text (s : ByteArray) (w : World) (hs : s.size ≤ maxLen) :
    Calls Try.prog 20 #[.string s] w fun e w' => (∃ f, TreeOut' w.heap.size f (textT s) e w') ∧ Below w.heap.size w w' := by
  have Hs := Lib.hid hs
  clear hs
  go_enter Try.func20, Try.ntmps20
  go_wp2_with fail
  refine bodyPost_ret (v := .agg #[.int .i64 4, .bool false, .int .i64 0, .string s, .slice none 0 0, .slice none 0 0]) ?_ rfl ⟨⟨1, _, [], rfl, own_leaf 0 (wf_small (by decide) (by decide)) (wf_small (by decide) (by decide)) Hs.out, List.nodup_nil⟩, (Below.refl _ _).alloc (Nat.le_refl _) _⟩
  exact ret_tree rfl rfl rfl (heap_alloc_new w _)
theorem spec_int (n : Int) (w : World) (hn : (Lit.int .i64 n).wf = true) :
    Calls Try.prog 22 #[.int .i64 n] w fun e w' => (∃ f, TreeOut' w.heap.size f (intT n) e w') ∧ Below w.heap.size w w' := by
  have Hn := Lib.hid hn
  clear hn
  go_enter Try.func22, Try.ntmps22
  go_wp2_with fail
  refine bodyPost_ret (v := .agg #[.int .i64 3, .bool false, .int .i64 n, .string ⟨#[]⟩, .slice none 0 0, .slice none 0 0]) ?_ rfl ⟨⟨1, _, [], rfl, own_leaf 0 (wf_small (by decide) (by decide)) Hn.out (by decide), List.nodup_nil⟩, (Below.refl _ _).alloc (Nat.le_refl _) _⟩
  exact ret_tree rfl rfl rfl (heap_alloc_new w _)
theorem lies_list {w : World} {f : Nat} {kids : List T} {v : Value} (h : Lies w (f + 1) v (.sl 6 kids.length (rows kids))) : LiesS w (f + 1) [.int .i64 5, .bool false, .int .i64 0, .string ⟨#[]⟩, .slice none 0 0, v] (row (listT kids)) := by
  have h5 : (Lit.int .i64 5).wf = true := wf_small (by decide) (by decide)
  have h0 : (Lit.int .i64 0).wf = true := wf_small (by decide) (by decide)
  unfold listT
  rw [row]
  have l0 : Lies w (f + 1) (.int .i64 5) (.int .i64 5) := ⟨rfl, h5⟩
  have l1 : Lies w (f + 1) (.bool false) (.bool false) := rfl
  have l2 : Lies w (f + 1) (.int .i64 0) (.int .i64 0) := ⟨rfl, h0⟩
  have l3 : Lies w (f + 1) (.string ⟨#[]⟩) (.str ⟨#[]⟩) := ⟨rfl, by decide⟩
  have l4 : Lies w (f + 1) (.slice none 0 0) (.sl 1 0 []) := (own_nil w 0 f 1).lies
  exact LiesS.cons l0 (LiesS.cons l1 (LiesS.cons l2 (LiesS.cons l3 (LiesS.cons l4 (LiesS.cons h LiesS.nil)))))
theorem spec_list {f : Nat} (kids : List T) (A : Option Addr) (c : Nat) (w : World) (h : Lies w (f + 1) (.slice A kids.length c) (.sl 6 kids.length (rows kids))) (hw : kids.length + weights kids ≤ 1048576) :
    Calls Try.prog 15 #[.slice A kids.length c] w fun e w' => TreeOut' w.heap.size (f + 3) (listT kids) e w' ∧ Below w.heap.size w w' := by
  obtain ⟨w1, hw1⟩ : ∃ w1, w1 = w.alloc (.cells #[.int .i64 0, .bool false, .int .i64 0, .string ⟨#[]⟩, .slice none 0 0, .slice none 0 0] 29) := ⟨_, rfl⟩
  have hb1 : Below w.heap.size w w1 := by subst hw1; exact (Below.refl _ _).alloc (Nat.le_refl _) _
  have h1 : w1.heap[w.heap.size]? = some (.cells #[.int .i64 0, .bool false, .int .i64 0, .string ⟨#[]⟩, .slice none 0 0, .slice none 0 0] 29 (0, 0)) := by subst hw1; exact heap_alloc_new w _
  have HC := Lib.hid (spec_copy (f + 1) (listT kids) _ w1 (lies_list (h.below hb1)) (by unfold listT; rw [weight]; simp [weightK]; have e : (⟨#[]⟩ : ByteArray).size = 0 := rfl; omega))
  have Hw1 := Lib.hid hw1
  have Hb1 := Lib.hid hb1
  have H1 := Lib.hid h1
  clear h hw hw1 hb1 h1
  go_enter Try.func15, Try.ntmps15
  go_wp2_with fail
  rw [← Hw1.out]
  refine HC.out.mono ?_
  rintro e w2 ⟨⟨us, F, rfl, ho, hnd⟩, hb2⟩
  obtain ⟨x0, x1, x2, x3, x4, x5, rfl⟩ := six_of (ho.1.trans (row_length _))
  have hone := ho.one
  have h2 := heap_kept hb2 (heap_lt H1.out) H1.out
  have H2 := Lib.hid h2
  have Ho := Lib.hid ho
  have Hb2 := Lib.hid (below_link Hb1.out hb2 Hb1.out.size)
  have Hlt := Lib.hid (heap_lt H1.out)
  clear HC ho hb2
  go_wp2_with (first | (refine wpList_store_row rfl 29 _ _ rfl w.heap.size #[x0, x1, x2, x3, x4, x5] rfl rfl 29 _ h2 tree_size' rfl hone ?_) | fail)
  have ho3 : OwnS (w2.setRow w.heap.size #[x0, x1, x2, x3, x4, x5]) w.heap.size (f + 3) [x0, x1, x2, x3, x4, x5] (row (listT kids)) F := (OwnS.kept (fun x hx => by
    have h3 := (Ho.out.range x hx).1
    have h4 := Hlt.out
    simp only [World.setRow, Array.getElem?_modify]
    rw [if_neg (by omega)]) Ho.out).lower (Nat.le_of_lt Hlt.out)
  refine bodyPost_ret (v := .agg #[x0, x1, x2, x3, x4, x5]) ?_ rfl ⟨⟨_, F, rfl, ho3, hnd⟩, setRow_below Hb2.out (Nat.le_refl _) _⟩
  exact ret_tree rfl rfl rfl (setRow_at H2.out)
end Go.Proofs.Ytllfhnlhfnimbaa.tree
