/- The nodes' own method 'tree'; impl.TextTree, impl.IntTree. -/
import Derived.Test.YtmldigfghiofkaaTrMakeS
namespace Go.Proofs.Ytmldigfghiofkaa.tree
open Go.ChangeShapes Go.WideShapes Go.ChangeAt Go.RowKit
set_option linter.unusedVariables false

theorem text_node (s : ByteArray) (w : World) :
    Calls Try.prog 47 #[.agg #[.string s]] w fun e w' => e = .returned (.agg #[.int .i64 4, .bool false, .int .i64 0, .string s, .slice none 0 0, .slice none 0 0]) ∧ Below w.heap.size w w' := by
  go_enter Try.func47, Try.ntmps47
  go_wp2_with fail
  refine bodyPost_ret (v := .agg #[.int .i64 4, .bool false, .int .i64 0, .string s, .slice none 0 0, .slice none 0 0]) ?_ rfl ⟨rfl, ((Below.refl _ _).alloc (Nat.le_refl _) _).alloc (by simp) _⟩
  exact ret_tree rfl rfl rfl (by have h := heap_alloc_new (w.alloc (.cells #[.string s] 63)) (.cells #[.int .i64 4, .bool false, .int .i64 0, .string s, .slice none 0 0, .slice none 0 0] 30); rw [World.size_alloc] at h; exact h)
theorem int_node (n : Int) (w : World) :
    Calls Try.prog 48 #[.agg #[.int .i64 n]] w fun e w' => e = .returned (.agg #[.int .i64 3, .bool false, .int .i64 n, .string ⟨#[]⟩, .slice none 0 0, .slice none 0 0]) ∧ Below w.heap.size w w' := by
  go_enter Try.func48, Try.ntmps48
  go_wp2_with fail
  refine bodyPost_ret (v := .agg #[.int .i64 3, .bool false, .int .i64 n, .string ⟨#[]⟩, .slice none 0 0, .slice none 0 0]) ?_ rfl ⟨rfl, ((Below.refl _ _).alloc (Nat.le_refl _) _).alloc (by simp) _⟩
  exact ret_tree rfl rfl rfl (by have h := heap_alloc_new (w.alloc (.cells #[.int .i64 n] 66)) (.cells #[.int .i64 3, .bool false, .int .i64 n, .string ⟨#[]⟩, .slice none 0 0, .slice none 0 0] 30); rw [World.size_alloc] at h; exact h)
theorem list_node (A : Option Addr) (n c : Nat) (w : World) :
    Calls Try.prog 49 #[.agg #[.slice A n c]] w fun e w' => e = .returned (.agg #[.int .i64 5, .bool false, .int .i64 0, .string ⟨#[]⟩, .slice none 0 0, .slice A n c]) ∧ Below w.heap.size w w' := by
  go_enter Try.func49, Try.ntmps49
  go_wp2_with fail
  refine bodyPost_ret (v := .agg #[.int .i64 5, .bool false, .int .i64 0, .string ⟨#[]⟩, .slice none 0 0, .slice A n c]) ?_ rfl ⟨rfl, ((Below.refl _ _).alloc (Nat.le_refl _) _).alloc (by simp) _⟩
  exact ret_tree rfl rfl rfl (by have h := heap_alloc_new (w.alloc (.cells #[.slice A n c] 68)) (.cells #[.int .i64 5, .bool false, .int .i64 0, .string ⟨#[]⟩, .slice none 0 0, .slice A n c] 30); rw [World.size_alloc] at h; exact h)

theorem impl_text (s : ByteArray) (w : World) (hs : s.size ≤ maxLen) :
    Calls Try.prog 27 #[.string s] w fun e w' => (∃ f, TreeOut' w.heap.size f (textT s) e w') ∧ Below w.heap.size w w' := by
  have Hs := Lib.hid hs
  obtain ⟨w1, hw1⟩ : ∃ w1, w1 = w.alloc (.cells #[.int .i64 0, .bool false, .int .i64 0, .string ⟨#[]⟩, .slice none 0 0, .slice none 0 0] 30) := ⟨_, rfl⟩
  have hb1 : Below w.heap.size w w1 := by subst hw1; exact (Below.refl _ _).alloc (Nat.le_refl _) _
  have h1 : w1.heap[w.heap.size]? = some (.cells #[.int .i64 0, .bool false, .int .i64 0, .string ⟨#[]⟩, .slice none 0 0, .slice none 0 0] 30 (0, 0)) := by subst hw1; exact heap_alloc_new w _
  have HC := Lib.hid (text_node s w1)
  have Hw1 := Lib.hid hw1
  have Hb1 := Lib.hid hb1
  have H1 := Lib.hid h1
  clear hs hw1 hb1 h1
  go_enter Try.func27, Try.ntmps27
  go_wp2_with fail
  rw [← Hw1.out]
  refine HC.out.mono ?_
  rintro e w2 ⟨rfl, hb2⟩
  have h2 := heap_kept hb2 (heap_lt H1.out) H1.out
  have H2 := Lib.hid h2
  have Hb2 := Lib.hid (below_link Hb1.out hb2 Hb1.out.size)
  clear HC hb2
  go_wp2_with (first | (refine wpList_store_row rfl 30 _ _ rfl w.heap.size #[.int .i64 4, .bool false, .int .i64 0, .string s, .slice none 0 0, .slice none 0 0] rfl rfl 30 _ h2 tree_size' rfl (by simp [Value.oneCell']) ?_) | fail)
  refine bodyPost_ret (v := .agg #[.int .i64 4, .bool false, .int .i64 0, .string s, .slice none 0 0, .slice none 0 0]) ?_ rfl ⟨⟨1, _, [], rfl, own_leaf 0 (wf_small (by decide) (by decide)) (wf_small (by decide) (by decide)) Hs.out, List.nodup_nil⟩, setRow_below Hb2.out (Nat.le_refl _) _⟩
  exact ret_tree rfl rfl rfl (setRow_at H2.out)

theorem impl_int (n : Int) (w : World) (hs : (Lit.int .i64 n).wf = true) :
    Calls Try.prog 29 #[.int .i64 n] w fun e w' => (∃ f, TreeOut' w.heap.size f (intT n) e w') ∧ Below w.heap.size w w' := by
  have Hs := Lib.hid hs
  obtain ⟨w1, hw1⟩ : ∃ w1, w1 = w.alloc (.cells #[.int .i64 0, .bool false, .int .i64 0, .string ⟨#[]⟩, .slice none 0 0, .slice none 0 0] 30) := ⟨_, rfl⟩
  have hb1 : Below w.heap.size w w1 := by subst hw1; exact (Below.refl _ _).alloc (Nat.le_refl _) _
  have h1 : w1.heap[w.heap.size]? = some (.cells #[.int .i64 0, .bool false, .int .i64 0, .string ⟨#[]⟩, .slice none 0 0, .slice none 0 0] 30 (0, 0)) := by subst hw1; exact heap_alloc_new w _
  have HC := Lib.hid (int_node n w1)
  have Hw1 := Lib.hid hw1
  have Hb1 := Lib.hid hb1
  have H1 := Lib.hid h1
  clear hs hw1 hb1 h1
  go_enter Try.func29, Try.ntmps29
  go_wp2_with fail
  rw [← Hw1.out]
  refine HC.out.mono ?_
  rintro e w2 ⟨rfl, hb2⟩
  have h2 := heap_kept hb2 (heap_lt H1.out) H1.out
  have H2 := Lib.hid h2
  have Hb2 := Lib.hid (below_link Hb1.out hb2 Hb1.out.size)
  clear HC hb2
  go_wp2_with (first | (refine wpList_store_row rfl 30 _ _ rfl w.heap.size #[.int .i64 3, .bool false, .int .i64 n, .string ⟨#[]⟩, .slice none 0 0, .slice none 0 0] rfl rfl 30 _ h2 tree_size' rfl (by simp [Value.oneCell']) ?_) | fail)
  refine bodyPost_ret (v := .agg #[.int .i64 3, .bool false, .int .i64 n, .string ⟨#[]⟩, .slice none 0 0, .slice none 0 0]) ?_ rfl ⟨⟨1, _, [], rfl, own_leaf 0 (wf_small (by decide) (by decide)) Hs.out (by decide), List.nodup_nil⟩, setRow_below Hb2.out (Nat.le_refl _) _⟩
  exact ret_tree rfl rfl rfl (setRow_at H2.out)
end Go.Proofs.Ytmldigfghiofkaa.tree
