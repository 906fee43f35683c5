/- Merged: TrMakeI TrListI. -/
import Derived.Test.YtlnfbpdicjcpgaaDoorGTree
import Derived.Test.YtlnfbpdicjcpgaaDoorTrMakeS
import Derived.Test.YtlnfbpdicjcpgaaDoorGCp
namespace Go.Proofs.YtlnfbpdicjcpgaaDoor.tree
open Go.ChangeShapes Go.WideShapes Go.ChangeAt Go.RowKit
set_option linter.unusedVariables false

theorem text_node (s : ByteArray) (w : World) :
    Calls Tryd.prog 57 #[.agg #[.string s]] w fun e w' => e = .returned (.agg #[.int .i64 4, .bool false, .int .i64 0, .string s, .slice none 0 0, .slice none 0 0]) ∧ Below w.heap.size w w' := by
  go_enter Tryd.func57, Tryd.ntmps57
  go_wp2_with fail
  refine bodyPost_ret (v := .agg #[.int .i64 4, .bool false, .int .i64 0, .string s, .slice none 0 0, .slice none 0 0]) ?_ rfl ⟨rfl, ((Below.refl _ _).alloc (Nat.le_refl _) _).alloc (by simp) _⟩
  exact ret_tree rfl rfl rfl (by have h := heap_alloc_new (w.alloc (.cells #[.string s] 76)) (.cells #[.int .i64 4, .bool false, .int .i64 0, .string s, .slice none 0 0, .slice none 0 0] 29); rw [World.size_alloc] at h; exact h)
theorem int_node (n : Int) (w : World) :
    Calls Tryd.prog 58 #[.agg #[.int .i64 n]] w fun e w' => e = .returned (.agg #[.int .i64 3, .bool false, .int .i64 n, .string ⟨#[]⟩, .slice none 0 0, .slice none 0 0]) ∧ Below w.heap.size w w' := by
  go_enter Tryd.func58, Tryd.ntmps58
  go_wp2_with fail
  refine bodyPost_ret (v := .agg #[.int .i64 3, .bool false, .int .i64 n, .string ⟨#[]⟩, .slice none 0 0, .slice none 0 0]) ?_ rfl ⟨rfl, ((Below.refl _ _).alloc (Nat.le_refl _) _).alloc (by simp) _⟩
  exact ret_tree rfl rfl rfl (by have h := heap_alloc_new (w.alloc (.cells #[.int .i64 n] 78)) (.cells #[.int .i64 3, .bool false, .int .i64 n, .string ⟨#[]⟩, .slice none 0 0, .slice none 0 0] 29); rw [World.size_alloc] at h; exact h)
theorem list_node (A : Option Addr) (n c : Nat) (w : World) :
    Calls Tryd.prog 55 #[.agg #[.slice A n c]] w fun e w' => e = .returned (.agg #[.int .i64 5, .bool false, .int .i64 0, .string ⟨#[]⟩, .slice none 0 0, .slice A n c]) ∧ Below w.heap.size w w' := by
  go_enter Tryd.func55, Tryd.ntmps55
  go_wp2_with fail
  refine bodyPost_ret (v := .agg #[.int .i64 5, .bool false, .int .i64 0, .string ⟨#[]⟩, .slice none 0 0, .slice A n c]) ?_ rfl ⟨rfl, ((Below.refl _ _).alloc (Nat.le_refl _) _).alloc (by simp) _⟩
  exact ret_tree rfl rfl rfl (by have h := heap_alloc_new (w.alloc (.cells #[.slice A n c] 69)) (.cells #[.int .i64 5, .bool false, .int .i64 0, .string ⟨#[]⟩, .slice none 0 0, .slice A n c] 29); rw [World.size_alloc] at h; exact h)

theorem impl_text (s : ByteArray) (w : World) (hs : s.size ≤ maxLen) :
    Calls Tryd.prog 29 #[.string s] w fun e w' => (∃ f, TreeOut' w.heap.size f (textT s) e w') ∧ Below w.heap.size w w' := by
  have Hs := Lib.hid hs
  obtain ⟨w1, hw1⟩ : ∃ w1, w1 = w.alloc (.cells #[.int .i64 0, .bool false, .int .i64 0, .string ⟨#[]⟩, .slice none 0 0, .slice none 0 0] 29) := ⟨_, rfl⟩
  have hb1 : Below w.heap.size w w1 := by subst hw1; exact (Below.refl _ _).alloc (Nat.le_refl _) _
  have h1 : w1.heap[w.heap.size]? = some (.cells #[.int .i64 0, .bool false, .int .i64 0, .string ⟨#[]⟩, .slice none 0 0, .slice none 0 0] 29 (0, 0)) := by subst hw1; exact heap_alloc_new w _
  have HC := Lib.hid (text_node s w1)
  have Hw1 := Lib.hid hw1
  have Hb1 := Lib.hid hb1
  have H1 := Lib.hid h1
  clear hs hw1 hb1 h1
  go_enter Tryd.func29, Tryd.ntmps29
  go_wp2_with fail
  rw [← Hw1.out]
  refine HC.out.mono ?_
  rintro e w2 ⟨rfl, hb2⟩
  have h2 := heap_kept hb2 (heap_lt H1.out) H1.out
  have H2 := Lib.hid h2
  have Hb2 := Lib.hid (below_link Hb1.out hb2 Hb1.out.size)
  clear HC hb2
  go_wp2_with (first | (refine wpList_store_row rfl 29 _ _ rfl w.heap.size #[.int .i64 4, .bool false, .int .i64 0, .string s, .slice none 0 0, .slice none 0 0] rfl rfl 29 _ h2 tree_size' rfl (by simp [Value.oneCell']) ?_) | fail)
  refine bodyPost_ret (v := .agg #[.int .i64 4, .bool false, .int .i64 0, .string s, .slice none 0 0, .slice none 0 0]) ?_ rfl ⟨⟨1, _, [], rfl, own_leaf 0 (wf_small (by decide) (by decide)) (wf_small (by decide) (by decide)) Hs.out, List.nodup_nil⟩, setRow_below Hb2.out (Nat.le_refl _) _⟩
  exact ret_tree rfl rfl rfl (setRow_at H2.out)

theorem impl_int (n : Int) (w : World) (hs : (Lit.int .i64 n).wf = true) :
    Calls Tryd.prog 30 #[.int .i64 n] w fun e w' => (∃ f, TreeOut' w.heap.size f (intT n) e w') ∧ Below w.heap.size w w' := by
  have Hs := Lib.hid hs
  obtain ⟨w1, hw1⟩ : ∃ w1, w1 = w.alloc (.cells #[.int .i64 0, .bool false, .int .i64 0, .string ⟨#[]⟩, .slice none 0 0, .slice none 0 0] 29) := ⟨_, rfl⟩
  have hb1 : Below w.heap.size w w1 := by subst hw1; exact (Below.refl _ _).alloc (Nat.le_refl _) _
  have h1 : w1.heap[w.heap.size]? = some (.cells #[.int .i64 0, .bool false, .int .i64 0, .string ⟨#[]⟩, .slice none 0 0, .slice none 0 0] 29 (0, 0)) := by subst hw1; exact heap_alloc_new w _
  have HC := Lib.hid (int_node n w1)
  have Hw1 := Lib.hid hw1
  have Hb1 := Lib.hid hb1
  have H1 := Lib.hid h1
  clear hs hw1 hb1 h1
  go_enter Tryd.func30, Tryd.ntmps30
  go_wp2_with fail
  rw [← Hw1.out]
  refine HC.out.mono ?_
  rintro e w2 ⟨rfl, hb2⟩
  have h2 := heap_kept hb2 (heap_lt H1.out) H1.out
  have H2 := Lib.hid h2
  have Hb2 := Lib.hid (below_link Hb1.out hb2 Hb1.out.size)
  clear HC hb2
  go_wp2_with (first | (refine wpList_store_row rfl 29 _ _ rfl w.heap.size #[.int .i64 3, .bool false, .int .i64 n, .string ⟨#[]⟩, .slice none 0 0, .slice none 0 0] rfl rfl 29 _ h2 tree_size' rfl (by simp [Value.oneCell']) ?_) | fail)
  refine bodyPost_ret (v := .agg #[.int .i64 3, .bool false, .int .i64 n, .string ⟨#[]⟩, .slice none 0 0, .slice none 0 0]) ?_ rfl ⟨⟨1, _, [], rfl, own_leaf 0 (wf_small (by decide) (by decide)) Hs.out (by decide), List.nodup_nil⟩, setRow_below Hb2.out (Nat.le_refl _) _⟩
  exact ret_tree rfl rfl rfl (setRow_at H2.out)
end Go.Proofs.YtlnfbpdicjcpgaaDoor.tree
namespace Go.Proofs.YtlnfbpdicjcpgaaDoor.tree
open Go.ChangeShapes Go.WideShapes Go.ChangeAt Go.RowKit
set_option linter.unusedVariables false

set_option maxRecDepth 100000 in
theorem impl_list {f : Nat} (kids : List T) (A : Option Addr) (c : Nat) (w : World) (h : Lies w (f + 1) (.slice A kids.length c) (.sl 6 kids.length (rows kids))) (hw : kids.length + weights kids ≤ 1048576) :
    Calls Tryd.prog 21 #[.slice A kids.length c] w fun e w' => TreeOut' w.heap.size (f + 3) (listT kids) e w' ∧ Below w.heap.size w w' := by
  obtain ⟨w1, hw1⟩ : ∃ w1, w1 = w.alloc (.cells #[.int .i64 0, .bool false, .int .i64 0, .string ⟨#[]⟩, .slice none 0 0, .slice none 0 0] 29) := ⟨_, rfl⟩
  have hb1 : Below w.heap.size w w1 := by subst hw1; exact (Below.refl _ _).alloc (Nat.le_refl _) _
  have h1 : w1.heap[w.heap.size]? = some (.cells #[.int .i64 0, .bool false, .int .i64 0, .string ⟨#[]⟩, .slice none 0 0, .slice none 0 0] 29 (0, 0)) := by subst hw1; exact heap_alloc_new w _
  have HN := Lib.hid (list_node A kids.length c w1)
  have HC := Lib.hid (fun w2 (hb : Below w.heap.size w w2) => impl_copy (f + 1) (listT kids) _ w2 (lies_list (h.below hb)) (by unfold listT; rw [weight]; simp [weightK]; have e : (⟨#[]⟩ : ByteArray).size = 0 := rfl; omega))
  have Hw1 := Lib.hid hw1
  have Hb1 := Lib.hid hb1
  have H1 := Lib.hid h1
  clear h hw hw1 hb1 h1
  go_enter Tryd.func21, Tryd.ntmps21
  go_wp2_with fail
  rw [← Hw1.out]
  refine HN.out.mono ?_
  rintro e w2 ⟨rfl, hb2⟩
  have h2 := heap_kept hb2 (heap_lt H1.out) H1.out
  have H2 := Lib.hid h2
  have Hb2 := Lib.hid (below_link Hb1.out hb2 Hb1.out.size)
  clear hb2 HN
  go_wp2_with fail
  refine (HC.out w2 Hb2.out).mono ?_
  rintro e w3 ⟨⟨us, F, rfl, ho, hnd⟩, hb3⟩
  obtain ⟨x0, x1, x2, x3, x4, x5, rfl⟩ := six_of (ho.1.trans (row_length _))
  have hone := ho.one
  have h3 := heap_kept hb3 (heap_lt H2.out) H2.out
  have H3 := Lib.hid h3
  have Ho := Lib.hid ho
  have Hb3 := Lib.hid (below_link Hb2.out hb3 Hb2.out.size)
  have Hlt := Lib.hid (heap_lt H2.out)
  clear HC ho hb3 h2
  go_wp2_with (first | (refine wpList_store_row rfl 29 _ _ rfl w.heap.size #[x0, x1, x2, x3, x4, x5] rfl rfl 29 _ h3 tree_size' rfl hone ?_) | fail)
  have ho3 : OwnS (w3.setRow w.heap.size #[x0, x1, x2, x3, x4, x5]) w.heap.size (f + 3) [x0, x1, x2, x3, x4, x5] (row (listT kids)) F := (OwnS.kept (fun x hx => by
    have h3 := (Ho.out.range x hx).1
    have h4 := Hlt.out
    simp only [World.setRow, Array.getElem?_modify]
    rw [if_neg (by omega)]) Ho.out).lower (Nat.le_of_lt Hlt.out)
  refine bodyPost_ret (v := .agg #[x0, x1, x2, x3, x4, x5]) ?_ rfl ⟨⟨_, F, rfl, ho3, hnd⟩, setRow_below Hb3.out (Nat.le_refl _) _⟩
  exact ret_tree rfl rfl rfl (setRow_at H3.out)
end Go.Proofs.YtlnfbpdicjcpgaaDoor.tree
