/- impl.ListTree. -/
import Derived.Test.YtangdmjdjiddcaaDoorListNdI
import Derived.Test.YtangdmjdjiddcaaDoorLiesL
import Derived.Test.YtangdmjdjiddcaaDoorGA9
namespace Go.Proofs.YtangdmjdjiddcaaDoor.tree
open Go.ChangeShapes Go.WideShapes Go.ChangeAt Go.RowKit
set_option linter.unusedVariables false

set_option maxRecDepth 100000 in
theorem impl_list {f : Nat} (kids : List T) (A : Option Addr) (c : Nat) (w : World) (h : Lies w (f + 1) (.slice A kids.length c) (.sl 6 kids.length (rows kids))) (hw : kids.length + weights kids ≤ 1048576) :
    Calls Tryd.prog 70 #[.slice A kids.length c] w fun e w' => TreeOut' w.heap.size (f + 3) (listT kids) e w' ∧ Below w.heap.size w w' := by
  obtain ⟨w1, hw1⟩ : ∃ w1, w1 = w.alloc (.cells #[.int .i64 0, .bool false, .int .i64 0, .string ⟨#[]⟩, .slice none 0 0, .slice none 0 0] 35) := ⟨_, rfl⟩
  have hb1 : Below w.heap.size w w1 := by subst hw1; exact (Below.refl _ _).alloc (Nat.le_refl _) _
  have h1 : w1.heap[w.heap.size]? = some (.cells #[.int .i64 0, .bool false, .int .i64 0, .string ⟨#[]⟩, .slice none 0 0, .slice none 0 0] 35 (0, 0)) := by subst hw1; exact heap_alloc_new w _
  have HN := Lib.hid (list_node A kids.length c w1)
  have HC := Lib.hid (fun w2 (hb : Below w.heap.size w w2) => impl_copy (f + 1) (listT kids) _ w2 (lies_list (h.below hb)) (by unfold listT; rw [weight]; simp [weightK]; have e : (⟨#[]⟩ : ByteArray).size = 0 := rfl; omega))
  have Hw1 := Lib.hid hw1
  have Hb1 := Lib.hid hb1
  have H1 := Lib.hid h1
  clear h hw hw1 hb1 h1
  go_enter Tryd.func70, Tryd.ntmps70
  go_wp2_with fail
  rw [← Hw1.out]
  refine HN.out.mono ?_
  rintro e w2 ⟨rfl, hb2⟩
  have h2 := heap_kept hb2 (heap_lt H1.out) H1.out
  have H2 := Lib.hid h2
  have Hb2 := Lib.hid (below_link Hb1.out hb2 Hb1.out.size)
  clear hb2 HN
  go_wp2_with fail
  refine (HC.out w2 Hb2.out).mono ?_
  rintro e w3 ⟨⟨us, F, rfl, ho, hnd⟩, hb3⟩
  obtain ⟨x0, x1, x2, x3, x4, x5, rfl⟩ := six_of (ho.1.trans (row_length _))
  have hone := ho.one
  have h3 := heap_kept hb3 (heap_lt H2.out) H2.out
  have H3 := Lib.hid h3
  have Ho := Lib.hid ho
  have Hb3 := Lib.hid (below_link Hb2.out hb3 Hb2.out.size)
  have Hlt := Lib.hid (heap_lt H2.out)
  clear HC ho hb3 h2
  go_wp2_with (first | (refine wpList_store_row rfl 35 _ _ rfl w.heap.size #[x0, x1, x2, x3, x4, x5] rfl rfl 35 _ h3 tree_size' rfl hone ?_) | fail)
  have ho3 : OwnS (w3.setRow w.heap.size #[x0, x1, x2, x3, x4, x5]) w.heap.size (f + 3) [x0, x1, x2, x3, x4, x5] (row (listT kids)) F := (OwnS.kept (fun x hx => by
    have h3 := (Ho.out.range x hx).1
    have h4 := Hlt.out
    simp only [World.setRow, Array.getElem?_modify]
    rw [if_neg (by omega)]) Ho.out).lower (Nat.le_of_lt Hlt.out)
  refine bodyPost_ret (v := .agg #[x0, x1, x2, x3, x4, x5]) ?_ rfl ⟨⟨_, F, rfl, ho3, hnd⟩, setRow_below Hb3.out (Nat.le_refl _) _⟩
  exact ret_tree rfl rfl rfl (setRow_at H3.out)
end Go.Proofs.YtangdmjdjiddcaaDoor.tree
