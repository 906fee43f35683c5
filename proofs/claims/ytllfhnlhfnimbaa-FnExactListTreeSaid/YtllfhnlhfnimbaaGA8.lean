/- Merged: TrMakeI OpenList. -/
import Derived.Test.YtllfhnlhfnimbaaGA3
import Derived.Test.YtllfhnlhfnimbaaOpenTree
namespace Go.Proofs.Ytllfhnlhfnimbaa.tree
open Go.ChangeShapes Go.WideShapes Go.ChangeAt Go.RowKit
set_option linter.unusedVariables false

theorem text_node (s : ByteArray) (w : World) :
    Calls Try.prog 36 #[.agg #[.string s]] w fun e w' => e = .returned (.agg #[.int .i64 4, .bool false, .int .i64 0, .string s, .slice none 0 0, .slice none 0 0]) ∧ Below w.heap.size w w' := by
  go_enter Try.func36, Try.ntmps36
  go_wp2_with fail
  refine bodyPost_ret (v := .agg #[.int .i64 4, .bool false, .int .i64 0, .string s, .slice none 0 0, .slice none 0 0]) ?_ rfl ⟨rfl, ((Below.refl _ _).alloc (Nat.le_refl _) _).alloc (by simp) _⟩
  exact ret_tree rfl rfl rfl (by have h := heap_alloc_new (w.alloc (.cells #[.string s] 56)) (.cells #[.int .i64 4, .bool false, .int .i64 0, .string s, .slice none 0 0, .slice none 0 0] 29); rw [World.size_alloc] at h; exact h)
theorem int_node (n : Int) (w : World) :
    Calls Try.prog 37 #[.agg #[.int .i64 n]] w fun e w' => e = .returned (.agg #[.int .i64 3, .bool false, .int .i64 n, .string ⟨#[]⟩, .slice none 0 0, .slice none 0 0]) ∧ Below w.heap.size w w' := by
  go_enter Try.func37, Try.ntmps37
  go_wp2_with fail
  refine bodyPost_ret (v := .agg #[.int .i64 3, .bool false, .int .i64 n, .string ⟨#[]⟩, .slice none 0 0, .slice none 0 0]) ?_ rfl ⟨rfl, ((Below.refl _ _).alloc (Nat.le_refl _) _).alloc (by simp) _⟩
  exact ret_tree rfl rfl rfl (by have h := heap_alloc_new (w.alloc (.cells #[.int .i64 n] 58)) (.cells #[.int .i64 3, .bool false, .int .i64 n, .string ⟨#[]⟩, .slice none 0 0, .slice none 0 0] 29); rw [World.size_alloc] at h; exact h)
theorem list_node (A : Option Addr) (n c : Nat) (w : World) :
    Calls Try.prog 34 #[.agg #[.slice A n c]] w fun e w' => e = .returned (.agg #[.int .i64 5, .bool false, .int .i64 0, .string ⟨#[]⟩, .slice none 0 0, .slice A n c]) ∧ Below w.heap.size w w' := by
  go_enter Try.func34, Try.ntmps34
  go_wp2_with fail
  refine bodyPost_ret (v := .agg #[.int .i64 5, .bool false, .int .i64 0, .string ⟨#[]⟩, .slice none 0 0, .slice A n c]) ?_ rfl ⟨rfl, ((Below.refl _ _).alloc (Nat.le_refl _) _).alloc (by simp) _⟩
  exact ret_tree rfl rfl rfl (by have h := heap_alloc_new (w.alloc (.cells #[.slice A n c] 52)) (.cells #[.int .i64 5, .bool false, .int .i64 0, .string ⟨#[]⟩, .slice none 0 0, .slice A n c] 29); rw [World.size_alloc] at h; exact h)

theorem impl_text (s : ByteArray) (w : World) (hs : s.size ≤ maxLen) :
    Calls Try.prog 21 #[.string s] w fun e w' => (∃ f, TreeOut' w.heap.size f (textT s) e w') ∧ Below w.heap.size w w' := by
  have Hs := Lib.hid hs
  obtain ⟨w1, hw1⟩ : ∃ w1, w1 = w.alloc (.cells #[.int .i64 0, .bool false, .int .i64 0, .string ⟨#[]⟩, .slice none 0 0, .slice none 0 0] 29) := ⟨_, rfl⟩
  have hb1 : Below w.heap.size w w1 := by subst hw1; exact (Below.refl _ _).alloc (Nat.le_refl _) _
  have h1 : w1.heap[w.heap.size]? = some (.cells #[.int .i64 0, .bool false, .int .i64 0, .string ⟨#[]⟩, .slice none 0 0, .slice none 0 0] 29 (0, 0)) := by subst hw1; exact heap_alloc_new w _
  have HC := Lib.hid (text_node s w1)
  have Hw1 := Lib.hid hw1
  have Hb1 := Lib.hid hb1
  have H1 := Lib.hid h1
  clear hs hw1 hb1 h1
  go_enter Try.func21, Try.ntmps21
  go_wp2_with fail
  rw [← Hw1.out]
  refine HC.out.mono ?_
  rintro e w2 ⟨rfl, hb2⟩
  have h2 := heap_kept hb2 (heap_lt H1.out) H1.out
  have H2 := Lib.hid h2
  have Hb2 := Lib.hid (below_link Hb1.out hb2 Hb1.out.size)
  clear HC hb2
  go_wp2_with (first | (refine wpList_store_row rfl 29 _ _ rfl w.heap.size #[.int .i64 4, .bool false, .int .i64 0, .string s, .slice none 0 0, .slice none 0 0] rfl rfl 29 _ h2 tree_size' rfl (by simp [Value.oneCell']) ?_) | fail)
  refine bodyPost_ret (v := .agg #[.int .i64 4, .bool false, .int .i64 0, .string s, .slice none 0 0, .slice none 0 0]) ?_ rfl ⟨⟨1, _, [], rfl, own_leaf 0 (wf_small (by decide) (by decide)) (wf_small (by decide) (by decide)) Hs.out, List.nodup_nil⟩, setRow_below Hb2.out (Nat.le_refl _) _⟩
  exact ret_tree rfl rfl rfl (setRow_at H2.out)

theorem impl_int (n : Int) (w : World) (hs : (Lit.int .i64 n).wf = true) :
    Calls Try.prog 23 #[.int .i64 n] w fun e w' => (∃ f, TreeOut' w.heap.size f (intT n) e w') ∧ Below w.heap.size w w' := by
  have Hs := Lib.hid hs
  obtain ⟨w1, hw1⟩ : ∃ w1, w1 = w.alloc (.cells #[.int .i64 0, .bool false, .int .i64 0, .string ⟨#[]⟩, .slice none 0 0, .slice none 0 0] 29) := ⟨_, rfl⟩
  have hb1 : Below w.heap.size w w1 := by subst hw1; exact (Below.refl _ _).alloc (Nat.le_refl _) _
  have h1 : w1.heap[w.heap.size]? = some (.cells #[.int .i64 0, .bool false, .int .i64 0, .string ⟨#[]⟩, .slice none 0 0, .slice none 0 0] 29 (0, 0)) := by subst hw1; exact heap_alloc_new w _
  have HC := Lib.hid (int_node n w1)
  have Hw1 := Lib.hid hw1
  have Hb1 := Lib.hid hb1
  have H1 := Lib.hid h1
  clear hs hw1 hb1 h1
  go_enter Try.func23, Try.ntmps23
  go_wp2_with fail
  rw [← Hw1.out]
  refine HC.out.mono ?_
  rintro e w2 ⟨rfl, hb2⟩
  have h2 := heap_kept hb2 (heap_lt H1.out) H1.out
  have H2 := Lib.hid h2
  have Hb2 := Lib.hid (below_link Hb1.out hb2 Hb1.out.size)
  clear HC hb2
  go_wp2_with (first | (refine wpList_store_row rfl 29 _ _ rfl w.heap.size #[.int .i64 3, .bool false, .int .i64 n, .string ⟨#[]⟩, .slice none 0 0, .slice none 0 0] rfl rfl 29 _ h2 tree_size' rfl (by simp [Value.oneCell']) ?_) | fail)
  refine bodyPost_ret (v := .agg #[.int .i64 3, .bool false, .int .i64 n, .string ⟨#[]⟩, .slice none 0 0, .slice none 0 0]) ?_ rfl ⟨⟨1, _, [], rfl, own_leaf 0 (wf_small (by decide) (by decide)) Hs.out (by decide), List.nodup_nil⟩, setRow_below Hb2.out (Nat.le_refl _) _⟩
  exact ret_tree rfl rfl rfl (setRow_at H2.out)
end Go.Proofs.Ytllfhnlhfnimbaa.tree
namespace Go.Proofs.Ytllfhnlhfnimbaa.tree
open Go.ChangeShapes Go.WideShapes Go.ChangeAt Go.RowKit
set_option linter.unusedVariables false
section
variable {H : Type} {enc : TypeId × Value → H} {w : World} {base : Nat} {sp : Nat → Bool} {held : Bool}
theorem open_law_list {r : Reach} {b0 : Nat} {v : Value} {d : DataW H} {ps : List MemPlace}
    (hval : Value.okWide Try.prog w r b0 23 v) (hd : DataW.Trod enc Try.prog w base sp held 23 v d ps) : ∃ (kids : List T) (f : Nat) (A : Option Addr) (c : Nat), v = .slice A kids.length c ∧ Lies w f v (.sl 6 kids.length (rows kids)) := by
  obtain ⟨A, n, c, rfl⟩ := okWide_slice Try.underlying23 hval
  obtain ⟨fuel, hf⟩ := hd
  obtain ⟨v', l, h1, h2⟩ := lies_slice (α := T) row Try.underlying23 cells_tree (by decide) row_length (fun n cs' y _ hy => lies_tree n cs' y hy) hf
  have e : v' = .slice A n c := by simpa [Value.cells] using h1.symm
  subst e
  obtain ⟨A', c', e2, h3, h4, h5, h6⟩ := h2.sl
  injection e2 with e3 e4 e5
  subst e4
  refine ⟨l, fuel, A, c, rfl, ?_⟩
  rw [rows_flat]
  exact h2
end
end Go.Proofs.Ytllfhnlhfnimbaa.tree
