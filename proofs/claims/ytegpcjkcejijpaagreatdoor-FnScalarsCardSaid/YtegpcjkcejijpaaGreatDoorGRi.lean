/- Merged: LeafI PartI RsI RsJ. -/
import Derived.Test.YtegpcjkcejijpaaGreatDoorGLeaf
import Derived.Test.YtegpcjkcejijpaaGreatDoorGRqI
import Derived.Test.YtegpcjkcejijpaaGreatDoorGWhI
import Derived.Test.YtegpcjkcejijpaaGreatDoorPlainI
namespace Go.Proofs.YtegpcjkcejijpaaGreatDoor.line
open Go.ChangeShapes Go.WideShapes Go.ChangeAt Go.RowKit tree
set_option linter.unusedVariables false

theorem text_nodeV (s : ByteArray) (w : World) :
    Calls Tryz.prog 177 #[.agg #[.string s]] w fun e w' => e = .returned (.agg #[.int .i64 4, .bool false, .int .i64 0, .string s, .slice none 0 0, .slice none 0 0]) ∧ Below w.heap.size w w' := by
  go_enter Tryz.func177, Tryz.ntmps177
  go_wp2_with fail
  refine bodyPost_ret (v := .agg #[.int .i64 4, .bool false, .int .i64 0, .string s, .slice none 0 0, .slice none 0 0]) ?_ rfl ⟨rfl, ((Below.refl _ _).alloc (Nat.le_refl _) _).alloc (by simp) _⟩
  exact ret_tree rfl rfl rfl (by have h := heap_alloc_new (w.alloc (.cells #[.string s] 157)) (.cells #[.int .i64 4, .bool false, .int .i64 0, .string s, .slice none 0 0, .slice none 0 0] 34); rw [World.size_alloc] at h; exact h)
theorem int_nodeV (n : Int) (w : World) :
    Calls Tryz.prog 181 #[.agg #[.int .i64 n]] w fun e w' => e = .returned (.agg #[.int .i64 3, .bool false, .int .i64 n, .string ⟨#[]⟩, .slice none 0 0, .slice none 0 0]) ∧ Below w.heap.size w w' := by
  go_enter Tryz.func181, Tryz.ntmps181
  go_wp2_with fail
  refine bodyPost_ret (v := .agg #[.int .i64 3, .bool false, .int .i64 n, .string ⟨#[]⟩, .slice none 0 0, .slice none 0 0]) ?_ rfl ⟨rfl, ((Below.refl _ _).alloc (Nat.le_refl _) _).alloc (by simp) _⟩
  exact ret_tree rfl rfl rfl (by have h := heap_alloc_new (w.alloc (.cells #[.int .i64 n] 155)) (.cells #[.int .i64 3, .bool false, .int .i64 n, .string ⟨#[]⟩, .slice none 0 0, .slice none 0 0] 34); rw [World.size_alloc] at h; exact h)
theorem flag_nodeV (b : Bool) (w : World) :
    Calls Tryz.prog 150 #[.agg #[.bool b]] w fun e w' => e = .returned (.agg #[.int .i64 2, .bool b, .int .i64 0, .string ⟨#[]⟩, .slice none 0 0, .slice none 0 0]) ∧ Below w.heap.size w w' := by
  go_enter Tryz.func150, Tryz.ntmps150
  go_wp2_with fail
  refine bodyPost_ret (v := .agg #[.int .i64 2, .bool b, .int .i64 0, .string ⟨#[]⟩, .slice none 0 0, .slice none 0 0]) ?_ rfl ⟨rfl, ((Below.refl _ _).alloc (Nat.le_refl _) _).alloc (by simp) _⟩
  exact ret_tree rfl rfl rfl (by have h := heap_alloc_new (w.alloc (.cells #[.bool b] 145)) (.cells #[.int .i64 2, .bool b, .int .i64 0, .string ⟨#[]⟩, .slice none 0 0, .slice none 0 0] 34); rw [World.size_alloc] at h; exact h)
theorem list_nodeV (w : World) :
    Calls Tryz.prog 147 #[.agg #[.slice none 0 0]] w fun e w' => e = .returned (.agg #[.int .i64 5, .bool false, .int .i64 0, .string ⟨#[]⟩, .slice none 0 0, .slice none 0 0]) ∧ Below w.heap.size w w' := by
  go_enter Tryz.func147, Tryz.ntmps147
  go_wp2_with fail
  refine bodyPost_ret (v := .agg #[.int .i64 5, .bool false, .int .i64 0, .string ⟨#[]⟩, .slice none 0 0, .slice none 0 0]) ?_ rfl ⟨rfl, ((Below.refl _ _).alloc (Nat.le_refl _) _).alloc (by simp) _⟩
  exact ret_tree rfl rfl rfl (by have h := heap_alloc_new (w.alloc (.cells #[.slice none 0 0] 139)) (.cells #[.int .i64 5, .bool false, .int .i64 0, .string ⟨#[]⟩, .slice none 0 0, .slice none 0 0] 34); rw [World.size_alloc] at h; exact h)
theorem map_nodeV (w : World) :
    Calls Tryz.prog 148 #[.agg #[.slice none 0 0, .slice none 0 0]] w fun e w' => e = .returned (.agg #[.int .i64 6, .bool false, .int .i64 0, .string ⟨#[]⟩, .slice none 0 0, .slice none 0 0]) ∧ Below w.heap.size w w' := by
  go_enter Tryz.func148, Tryz.ntmps148
  go_wp2_with fail
  refine bodyPost_ret (v := .agg #[.int .i64 6, .bool false, .int .i64 0, .string ⟨#[]⟩, .slice none 0 0, .slice none 0 0]) ?_ rfl ⟨rfl, ((Below.refl _ _).alloc (Nat.le_refl _) _).alloc (by simp) _⟩
  exact ret_tree rfl rfl rfl (by have h := heap_alloc_new (w.alloc (.cells #[.slice none 0 0, .slice none 0 0] 141)) (.cells #[.int .i64 6, .bool false, .int .i64 0, .string ⟨#[]⟩, .slice none 0 0, .slice none 0 0] 34); rw [World.size_alloc] at h; exact h)
theorem null_nodeV (w : World) :
    Calls Tryz.prog 149 #[.agg #[]] w fun e w' => e = .returned (.agg #[.int .i64 1, .bool false, .int .i64 0, .string ⟨#[]⟩, .slice none 0 0, .slice none 0 0]) ∧ Below w.heap.size w w' := by
  go_enter Tryz.func149, Tryz.ntmps149
  go_wp2_with fail
  refine bodyPost_ret (v := .agg #[.int .i64 1, .bool false, .int .i64 0, .string ⟨#[]⟩, .slice none 0 0, .slice none 0 0]) ?_ rfl ⟨rfl, ((Below.refl _ _).alloc (Nat.le_refl _) _).alloc (by simp) _⟩
  exact ret_tree rfl rfl rfl (by have h := heap_alloc_new (w.alloc (.cells #[] 143)) (.cells #[.int .i64 1, .bool false, .int .i64 0, .string ⟨#[]⟩, .slice none 0 0, .slice none 0 0] 34); rw [World.size_alloc] at h; exact h)
theorem impl_textV (s : ByteArray) (w : World) :
    Calls Tryz.prog 151 #[.string s] w fun e w' => e = .returned (.agg #[.int .i64 4, .bool false, .int .i64 0, .string s, .slice none 0 0, .slice none 0 0]) ∧ Below w.heap.size w w' := by
  obtain ⟨w1, hw1⟩ : ∃ w1, w1 = w.alloc (.cells #[.int .i64 0, .bool false, .int .i64 0, .string ⟨#[]⟩, .slice none 0 0, .slice none 0 0] 34) := ⟨_, rfl⟩
  have hb1 : Below w.heap.size w w1 := by subst hw1; exact (Below.refl _ _).alloc (Nat.le_refl _) _
  have h1 : w1.heap[w.heap.size]? = some (.cells #[.int .i64 0, .bool false, .int .i64 0, .string ⟨#[]⟩, .slice none 0 0, .slice none 0 0] 34 (0, 0)) := by subst hw1; exact heap_alloc_new w _
  have HC := Lib.hid (text_nodeV s w1)
  have Hw1 := Lib.hid hw1
  have Hb1 := Lib.hid hb1
  have H1 := Lib.hid h1
  clear hw1 hb1 h1
  go_enter Tryz.func151, Tryz.ntmps151
  go_wp2_with fail
  rw [← Hw1.out]
  refine HC.out.mono ?_
  rintro e w2 ⟨rfl, hb2⟩
  have h2 := heap_kept hb2 (heap_lt H1.out) H1.out
  have H2 := Lib.hid h2
  have Hb2 := Lib.hid (below_link Hb1.out hb2 Hb1.out.size)
  clear HC hb2
  go_wp2_with (first | (refine wpList_store_row rfl 34 _ _ rfl w.heap.size #[.int .i64 4, .bool false, .int .i64 0, .string s, .slice none 0 0, .slice none 0 0] rfl rfl 34 _ h2 tree_size' rfl (by simp [Value.oneCell']) ?_) | fail)
  refine bodyPost_ret (v := .agg #[.int .i64 4, .bool false, .int .i64 0, .string s, .slice none 0 0, .slice none 0 0]) ?_ rfl ⟨rfl, setRow_below Hb2.out (Nat.le_refl _) _⟩
  exact ret_tree rfl rfl rfl (setRow_at H2.out)
theorem impl_intV (n : Int) (w : World) :
    Calls Tryz.prog 153 #[.int .i64 n] w fun e w' => e = .returned (.agg #[.int .i64 3, .bool false, .int .i64 n, .string ⟨#[]⟩, .slice none 0 0, .slice none 0 0]) ∧ Below w.heap.size w w' := by
  obtain ⟨w1, hw1⟩ : ∃ w1, w1 = w.alloc (.cells #[.int .i64 0, .bool false, .int .i64 0, .string ⟨#[]⟩, .slice none 0 0, .slice none 0 0] 34) := ⟨_, rfl⟩
  have hb1 : Below w.heap.size w w1 := by subst hw1; exact (Below.refl _ _).alloc (Nat.le_refl _) _
  have h1 : w1.heap[w.heap.size]? = some (.cells #[.int .i64 0, .bool false, .int .i64 0, .string ⟨#[]⟩, .slice none 0 0, .slice none 0 0] 34 (0, 0)) := by subst hw1; exact heap_alloc_new w _
  have HC := Lib.hid (int_nodeV n w1)
  have Hw1 := Lib.hid hw1
  have Hb1 := Lib.hid hb1
  have H1 := Lib.hid h1
  clear hw1 hb1 h1
  go_enter Tryz.func153, Tryz.ntmps153
  go_wp2_with fail
  rw [← Hw1.out]
  refine HC.out.mono ?_
  rintro e w2 ⟨rfl, hb2⟩
  have h2 := heap_kept hb2 (heap_lt H1.out) H1.out
  have H2 := Lib.hid h2
  have Hb2 := Lib.hid (below_link Hb1.out hb2 Hb1.out.size)
  clear HC hb2
  go_wp2_with (first | (refine wpList_store_row rfl 34 _ _ rfl w.heap.size #[.int .i64 3, .bool false, .int .i64 n, .string ⟨#[]⟩, .slice none 0 0, .slice none 0 0] rfl rfl 34 _ h2 tree_size' rfl (by simp [Value.oneCell']) ?_) | fail)
  refine bodyPost_ret (v := .agg #[.int .i64 3, .bool false, .int .i64 n, .string ⟨#[]⟩, .slice none 0 0, .slice none 0 0]) ?_ rfl ⟨rfl, setRow_below Hb2.out (Nat.le_refl _) _⟩
  exact ret_tree rfl rfl rfl (setRow_at H2.out)
end Go.Proofs.YtegpcjkcejijpaaGreatDoor.line
namespace Go.Proofs.YtegpcjkcejijpaaGreatDoor.line
open Go.ChangeShapes Go.WideShapes Go.ChangeAt Go.RowKit tree
set_option linter.unusedVariables false

set_option maxRecDepth 100000 in
set_option maxHeartbeats 4000000 in
theorem impl_emptyIn (s : ByteArray) (w : World) :
    Calls Tryz.prog 107 #[.string s] w (RsOut (emptyF s) w) := by
  have hl := Lib.toList_data s
  obtain ⟨w1, hw1⟩ : ∃ w1, w1 = w.alloc (.cells #[.int .i64 0, .bool false, .int .i64 0, .string ⟨#[]⟩, .slice none 0 0, .slice none 0 0] 34) := ⟨_, rfl⟩
  have hb1 : Below w.heap.size w w1 := by rw [hw1]; exact (Below.refl _ _).alloc (Nat.le_refl _) _
  have hrow1 : w1.heap[w.heap.size]? = some (.cells #[.int .i64 0, .bool false, .int .i64 0, .string ⟨#[]⟩, .slice none 0 0, .slice none 0 0] 34 (0, 0)) := by rw [hw1]; exact heap_alloc_new w _
  have Hb1 := Lib.hid hb1
  have Hrow1 := Lib.hid hrow1
  have Hw1 := Lib.hid hw1
  by_cases c0 : s.data.toList = [91, 93]
  · have q0 : (s.toList == [91, 93]) = true := by rw [hl, c0]; rfl
    have n0 : (s.toList != [91, 93]) = false := by rw [hl, c0]; rfl
    have H : Hid (emptyF s = some (leafT 5 false 0 ⟨#[]⟩)) := by unfold Hid emptyF; rw [c0]; rfl
    have HN := Lib.hid (list_nodeV w1)
    clear c0 hl hw1 hb1 hrow1
    go_enter Tryz.func107, Tryz.ntmps107
    go_wp2_with fail
    rw [← Hw1.out]
    refine (HN.out).mono ?_
    rintro e w2 ⟨rfl, hb2⟩
    have Hb2 := Lib.hid (below_link Hb1.out hb2 Hb1.out.size)
    have h2 := heap_kept hb2 (heap_lt Hrow1.out) Hrow1.out
    have H2 := Lib.hid h2
    clear HN hb2 Hb1 Hrow1
    go_wp2_with (first | (refine wpList_store_row rfl 34 _ _ rfl w.heap.size #[.int .i64 5, .bool false, .int .i64 0, .string ⟨#[]⟩, .slice none 0 0, .slice none 0 0] rfl rfl 34 _ h2 tree_size' rfl (by simp [Value.oneCell']) ?_) | fail)
    refine bodyPost_ret (v := .tuple #[.agg #[.int .i64 5, .bool false, .int .i64 0, .string ⟨#[]⟩, .slice none 0 0, .slice none 0 0], .bool true]) ?_ rfl (rs_some H.out (setRow_below Hb2.out (Nat.le_refl _) _))
    exact ret_leaf rfl rfl rfl rfl (setRow_at H2.out)
  have q0 : (s.toList == [91, 93]) = false := by rw [hl]; exact beq_eq_false_iff_ne.2 c0
  have n0 : (s.toList != [91, 93]) = true := by rw [hl]; exact bne_iff_ne.2 c0
  by_cases c1 : s.data.toList = [123, 125]
  · have q1 : (s.toList == [123, 125]) = true := by rw [hl, c1]; rfl
    have n1 : (s.toList != [123, 125]) = false := by rw [hl, c1]; rfl
    have H : Hid (emptyF s = some (leafT 6 false 0 ⟨#[]⟩)) := by unfold Hid emptyF; rw [c1]; rfl
    have HN := Lib.hid (map_nodeV w1)
    clear c1 hl hw1 hb1 hrow1
    go_enter Tryz.func107, Tryz.ntmps107
    go_wp2_with fail
    rw [← Hw1.out]
    refine (HN.out).mono ?_
    rintro e w2 ⟨rfl, hb2⟩
    have Hb2 := Lib.hid (below_link Hb1.out hb2 Hb1.out.size)
    have h2 := heap_kept hb2 (heap_lt Hrow1.out) Hrow1.out
    have H2 := Lib.hid h2
    clear HN hb2 Hb1 Hrow1
    go_wp2_with (first | (refine wpList_store_row rfl 34 _ _ rfl w.heap.size #[.int .i64 6, .bool false, .int .i64 0, .string ⟨#[]⟩, .slice none 0 0, .slice none 0 0] rfl rfl 34 _ h2 tree_size' rfl (by simp [Value.oneCell']) ?_) | fail)
    refine bodyPost_ret (v := .tuple #[.agg #[.int .i64 6, .bool false, .int .i64 0, .string ⟨#[]⟩, .slice none 0 0, .slice none 0 0], .bool true]) ?_ rfl (rs_some H.out (setRow_below Hb2.out (Nat.le_refl _) _))
    exact ret_leaf rfl rfl rfl rfl (setRow_at H2.out)
  have q1 : (s.toList == [123, 125]) = false := by rw [hl]; exact beq_eq_false_iff_ne.2 c1
  have n1 : (s.toList != [123, 125]) = true := by rw [hl]; exact bne_iff_ne.2 c1
  have H : Hid (emptyF s = none) := by unfold Hid emptyF; simp only [c0, c1, if_false, or_self]
  clear c0 c1 hl hw1 hb1 hrow1
  go_enter Tryz.func107, Tryz.ntmps107
  go_wp2_with fail
  refine bodyPost_ret (v := .tuple #[.agg #[.int .i64 0, .bool false, .int .i64 0, .string ⟨#[]⟩, .slice none 0 0, .slice none 0 0], .bool false]) ?_ rfl (rs_none H.out ((Below.refl _ _).alloc (Nat.le_refl _) _))
  exact ret_leaf rfl rfl rfl rfl (heap_alloc_new w _)
set_option maxRecDepth 100000 in
set_option maxHeartbeats 4000000 in
theorem impl_nullIn (s : ByteArray) (w : World) :
    Calls Tryz.prog 108 #[.string s] w (RsOut (nullF s) w) := by
  have hl := Lib.toList_data s
  obtain ⟨w1, hw1⟩ : ∃ w1, w1 = w.alloc (.cells #[.int .i64 0, .bool false, .int .i64 0, .string ⟨#[]⟩, .slice none 0 0, .slice none 0 0] 34) := ⟨_, rfl⟩
  have hb1 : Below w.heap.size w w1 := by rw [hw1]; exact (Below.refl _ _).alloc (Nat.le_refl _) _
  have hrow1 : w1.heap[w.heap.size]? = some (.cells #[.int .i64 0, .bool false, .int .i64 0, .string ⟨#[]⟩, .slice none 0 0, .slice none 0 0] 34 (0, 0)) := by rw [hw1]; exact heap_alloc_new w _
  have Hb1 := Lib.hid hb1
  have Hrow1 := Lib.hid hrow1
  have Hw1 := Lib.hid hw1
  by_cases c0 : s.data.toList = [110, 117, 108, 108]
  · have q0 : (s.toList == [110, 117, 108, 108]) = true := by rw [hl, c0]; rfl
    have n0 : (s.toList != [110, 117, 108, 108]) = false := by rw [hl, c0]; rfl
    have H : Hid (nullF s = some (leafT 1 false 0 ⟨#[]⟩)) := by unfold Hid nullF; rw [c0]; rfl
    have HN := Lib.hid (null_nodeV w1)
    clear c0 hl hw1 hb1 hrow1
    go_enter Tryz.func108, Tryz.ntmps108
    go_wp2_with fail
    rw [← Hw1.out]
    refine (HN.out).mono ?_
    rintro e w2 ⟨rfl, hb2⟩
    have Hb2 := Lib.hid (below_link Hb1.out hb2 Hb1.out.size)
    have h2 := heap_kept hb2 (heap_lt Hrow1.out) Hrow1.out
    have H2 := Lib.hid h2
    clear HN hb2 Hb1 Hrow1
    go_wp2_with (first | (refine wpList_store_row rfl 34 _ _ rfl w.heap.size #[.int .i64 1, .bool false, .int .i64 0, .string ⟨#[]⟩, .slice none 0 0, .slice none 0 0] rfl rfl 34 _ h2 tree_size' rfl (by simp [Value.oneCell']) ?_) | fail)
    refine bodyPost_ret (v := .tuple #[.agg #[.int .i64 1, .bool false, .int .i64 0, .string ⟨#[]⟩, .slice none 0 0, .slice none 0 0], .bool true]) ?_ rfl (rs_some H.out (setRow_below Hb2.out (Nat.le_refl _) _))
    exact ret_leaf rfl rfl rfl rfl (setRow_at H2.out)
  have q0 : (s.toList == [110, 117, 108, 108]) = false := by rw [hl]; exact beq_eq_false_iff_ne.2 c0
  have n0 : (s.toList != [110, 117, 108, 108]) = true := by rw [hl]; exact bne_iff_ne.2 c0
  by_cases c1 : s.data.toList = [126]
  · have q1 : (s.toList == [126]) = true := by rw [hl, c1]; rfl
    have n1 : (s.toList != [126]) = false := by rw [hl, c1]; rfl
    have H : Hid (nullF s = some (leafT 1 false 0 ⟨#[]⟩)) := by unfold Hid nullF; rw [c1]; rfl
    have HN := Lib.hid (null_nodeV w1)
    clear c1 hl hw1 hb1 hrow1
    go_enter Tryz.func108, Tryz.ntmps108
    go_wp2_with fail
    rw [← Hw1.out]
    refine (HN.out).mono ?_
    rintro e w2 ⟨rfl, hb2⟩
    have Hb2 := Lib.hid (below_link Hb1.out hb2 Hb1.out.size)
    have h2 := heap_kept hb2 (heap_lt Hrow1.out) Hrow1.out
    have H2 := Lib.hid h2
    clear HN hb2 Hb1 Hrow1
    go_wp2_with (first | (refine wpList_store_row rfl 34 _ _ rfl w.heap.size #[.int .i64 1, .bool false, .int .i64 0, .string ⟨#[]⟩, .slice none 0 0, .slice none 0 0] rfl rfl 34 _ h2 tree_size' rfl (by simp [Value.oneCell']) ?_) | fail)
    refine bodyPost_ret (v := .tuple #[.agg #[.int .i64 1, .bool false, .int .i64 0, .string ⟨#[]⟩, .slice none 0 0, .slice none 0 0], .bool true]) ?_ rfl (rs_some H.out (setRow_below Hb2.out (Nat.le_refl _) _))
    exact ret_leaf rfl rfl rfl rfl (setRow_at H2.out)
  have q1 : (s.toList == [126]) = false := by rw [hl]; exact beq_eq_false_iff_ne.2 c1
  have n1 : (s.toList != [126]) = true := by rw [hl]; exact bne_iff_ne.2 c1
  have H : Hid (nullF s = none) := by unfold Hid nullF; simp only [c0, c1, if_false, or_self]
  clear c0 c1 hl hw1 hb1 hrow1
  go_enter Tryz.func108, Tryz.ntmps108
  go_wp2_with fail
  refine bodyPost_ret (v := .tuple #[.agg #[.int .i64 0, .bool false, .int .i64 0, .string ⟨#[]⟩, .slice none 0 0, .slice none 0 0], .bool false]) ?_ rfl (rs_none H.out ((Below.refl _ _).alloc (Nat.le_refl _) _))
  exact ret_leaf rfl rfl rfl rfl (heap_alloc_new w _)
set_option maxRecDepth 100000 in
set_option maxHeartbeats 4000000 in
theorem impl_flagIn (s : ByteArray) (w : World) :
    Calls Tryz.prog 109 #[.string s] w (RsOut (flagF s) w) := by
  have hl := Lib.toList_data s
  obtain ⟨w1, hw1⟩ : ∃ w1, w1 = w.alloc (.cells #[.int .i64 0, .bool false, .int .i64 0, .string ⟨#[]⟩, .slice none 0 0, .slice none 0 0] 34) := ⟨_, rfl⟩
  have hb1 : Below w.heap.size w w1 := by rw [hw1]; exact (Below.refl _ _).alloc (Nat.le_refl _) _
  have hrow1 : w1.heap[w.heap.size]? = some (.cells #[.int .i64 0, .bool false, .int .i64 0, .string ⟨#[]⟩, .slice none 0 0, .slice none 0 0] 34 (0, 0)) := by rw [hw1]; exact heap_alloc_new w _
  have Hb1 := Lib.hid hb1
  have Hrow1 := Lib.hid hrow1
  have Hw1 := Lib.hid hw1
  by_cases c0 : s.data.toList = [116, 114, 117, 101]
  · have q0 : (s.toList == [116, 114, 117, 101]) = true := by rw [hl, c0]; rfl
    have n0 : (s.toList != [116, 114, 117, 101]) = false := by rw [hl, c0]; rfl
    have H : Hid (flagF s = some (leafT 2 true 0 ⟨#[]⟩)) := by unfold Hid flagF; rw [c0]; rfl
    have HN := Lib.hid (flag_nodeV true w1)
    have e0 : (s.toList == [116, 114, 117, 101]) = true := by rw [hl, c0]; rfl
    clear c0 hl hw1 hb1 hrow1
    go_enter Tryz.func109, Tryz.ntmps109
    go_wp2_with fail
    rw [← Hw1.out]
    refine (HN.out).mono ?_
    rintro e w2 ⟨rfl, hb2⟩
    have Hb2 := Lib.hid (below_link Hb1.out hb2 Hb1.out.size)
    have h2 := heap_kept hb2 (heap_lt Hrow1.out) Hrow1.out
    have H2 := Lib.hid h2
    clear HN hb2 Hb1 Hrow1
    go_wp2_with (first | (refine wpList_store_row rfl 34 _ _ rfl w.heap.size #[.int .i64 2, .bool true, .int .i64 0, .string ⟨#[]⟩, .slice none 0 0, .slice none 0 0] rfl rfl 34 _ h2 tree_size' rfl (by simp [Value.oneCell']) ?_) | fail)
    refine bodyPost_ret (v := .tuple #[.agg #[.int .i64 2, .bool true, .int .i64 0, .string ⟨#[]⟩, .slice none 0 0, .slice none 0 0], .bool true]) ?_ rfl (rs_some H.out (setRow_below Hb2.out (Nat.le_refl _) _))
    exact ret_leaf rfl rfl rfl rfl (setRow_at H2.out)
  have q0 : (s.toList == [116, 114, 117, 101]) = false := by rw [hl]; exact beq_eq_false_iff_ne.2 c0
  have n0 : (s.toList != [116, 114, 117, 101]) = true := by rw [hl]; exact bne_iff_ne.2 c0
  by_cases c1 : s.data.toList = [102, 97, 108, 115, 101]
  · have q1 : (s.toList == [102, 97, 108, 115, 101]) = true := by rw [hl, c1]; rfl
    have n1 : (s.toList != [102, 97, 108, 115, 101]) = false := by rw [hl, c1]; rfl
    have H : Hid (flagF s = some (leafT 2 false 0 ⟨#[]⟩)) := by unfold Hid flagF; rw [c1]; rfl
    have HN := Lib.hid (flag_nodeV false w1)
    have e0 : (s.toList == [116, 114, 117, 101]) = false := by rw [hl, c1]; rfl
    clear c1 hl hw1 hb1 hrow1
    go_enter Tryz.func109, Tryz.ntmps109
    go_wp2_with fail
    rw [← Hw1.out]
    refine (HN.out).mono ?_
    rintro e w2 ⟨rfl, hb2⟩
    have Hb2 := Lib.hid (below_link Hb1.out hb2 Hb1.out.size)
    have h2 := heap_kept hb2 (heap_lt Hrow1.out) Hrow1.out
    have H2 := Lib.hid h2
    clear HN hb2 Hb1 Hrow1
    go_wp2_with (first | (refine wpList_store_row rfl 34 _ _ rfl w.heap.size #[.int .i64 2, .bool false, .int .i64 0, .string ⟨#[]⟩, .slice none 0 0, .slice none 0 0] rfl rfl 34 _ h2 tree_size' rfl (by simp [Value.oneCell']) ?_) | fail)
    refine bodyPost_ret (v := .tuple #[.agg #[.int .i64 2, .bool false, .int .i64 0, .string ⟨#[]⟩, .slice none 0 0, .slice none 0 0], .bool true]) ?_ rfl (rs_some H.out (setRow_below Hb2.out (Nat.le_refl _) _))
    exact ret_leaf rfl rfl rfl rfl (setRow_at H2.out)
  have q1 : (s.toList == [102, 97, 108, 115, 101]) = false := by rw [hl]; exact beq_eq_false_iff_ne.2 c1
  have n1 : (s.toList != [102, 97, 108, 115, 101]) = true := by rw [hl]; exact bne_iff_ne.2 c1
  have H : Hid (flagF s = none) := by unfold Hid flagF; simp only [c0, c1, if_false, or_self]
  clear c0 c1 hl hw1 hb1 hrow1
  go_enter Tryz.func109, Tryz.ntmps109
  go_wp2_with fail
  refine bodyPost_ret (v := .tuple #[.agg #[.int .i64 0, .bool false, .int .i64 0, .string ⟨#[]⟩, .slice none 0 0, .slice none 0 0], .bool false]) ?_ rfl (rs_none H.out ((Below.refl _ _).alloc (Nat.le_refl _) _))
  exact ret_leaf rfl rfl rfl rfl (heap_alloc_new w _)
set_option maxRecDepth 100000 in
set_option maxHeartbeats 4000000 in
theorem impl_quotedIn (s : ByteArray) (w : World) (hs : s.size ≤ 1048576) (hT : rune.Tabs w) (hE : readq.ErrVar w "strconv.ErrSyntax") :
    Calls Tryz.prog 110 #[.string s] w (RsOut (quotF s) w) := by
  have hl := Lib.toList_data s
  obtain ⟨w1, hw1⟩ : ∃ w1, w1 = w.alloc (.cells #[.int .i64 0, .bool false, .int .i64 0, .string ⟨#[]⟩, .slice none 0 0, .slice none 0 0] 34) := ⟨_, rfl⟩
  have hb1 : Below w.heap.size w w1 := by rw [hw1]; exact (Below.refl _ _).alloc (Nat.le_refl _) _
  have hrow1 : w1.heap[w.heap.size]? = some (.cells #[.int .i64 0, .bool false, .int .i64 0, .string ⟨#[]⟩, .slice none 0 0, .slice none 0 0] 34 (0, 0)) := by rw [hw1]; exact heap_alloc_new w _
  have Hb1 := Lib.hid hb1
  have Hrow1 := Lib.hid hrow1
  have Hw1 := Lib.hid hw1
  have HQ := Lib.hid (readq.impl_readq s 0 w1 hs (by omega) (by omega) (hT.below hb1) (hE.below hb1))
  obtain ⟨R, hR⟩ : ∃ R, quotF s = R := ⟨_, rfl⟩
  rw [hR]
  unfold quotF at hR
  generalize (readq.readF s 0).1 = x at HQ hR
  generalize (readq.readF s 0).2 = n at HQ hR
  clear hl hw1 hb1 hrow1 hT hE
  by_cases hok : n = (s.size : Int) ∧ x.size ≤ 400
  · rw [if_pos hok] at hR
    have H := Lib.hid hR.symm
    obtain ⟨rfl, hx⟩ := hok
    have HT := Lib.hid (fun w => impl_textV x w)
    clear hR
    go_enter Tryz.func110, Tryz.ntmps110
    go_wp2_with fail
    rw [← Hw1.out]
    refine (HQ.out).mono ?_
    rintro e w2 ⟨rfl, hb2⟩
    have Hb2 := Lib.hid (below_link Hb1.out hb2 Hb1.out.size)
    have Hrow2 := Lib.hid (heap_kept hb2 (heap_lt Hrow1.out) Hrow1.out)
    clear HQ hb2 Hw1 Hb1 Hrow1
    go_wp2_with fail
    refine (HT.out _).mono ?_
    rintro e w3 ⟨rfl, hb3⟩
    have Hb3 := Lib.hid (below_link Hb2.out hb3 Hb2.out.size)
    have h3 := heap_kept hb3 (heap_lt Hrow2.out) Hrow2.out
    have H3 := Lib.hid h3
    clear HT hb3 Hb2 Hrow2
    go_wp2_with (first | (refine wpList_store_row rfl 34 _ _ rfl w.heap.size #[.int .i64 4, .bool false, .int .i64 0, .string x, .slice none 0 0, .slice none 0 0] rfl rfl 34 _ h3 tree_size' rfl (by simp [Value.oneCell']) ?_) | fail)
    refine bodyPost_ret (v := .tuple #[.agg #[.int .i64 4, .bool false, .int .i64 0, .string x, .slice none 0 0, .slice none 0 0], .bool true]) ?_ rfl (rs_some H.out (setRow_below Hb3.out (Nat.le_refl _) _))
    exact ret_leaf rfl rfl rfl rfl (setRow_at H3.out)
  · rw [if_neg hok] at hR
    have H := Lib.hid hR.symm
    have hg : (n != (s.size : Int)) = true ∨ ((n != (s.size : Int)) = false ∧ 400 < (x.size : Int)) := by
      by_cases e : n = (s.size : Int)
      · right
        refine ⟨by rw [e]; simp, ?_⟩
        by_cases e2 : x.size ≤ 400
        · exact absurd ⟨e, e2⟩ hok
        · omega
      · left; exact bne_iff_ne.2 e
    clear hok hR
    rcases hg with hg | ⟨hg, hg2⟩
    all_goals (
      go_enter Tryz.func110, Tryz.ntmps110
      go_wp2_with fail
      rw [← Hw1.out]
      refine (HQ.out).mono ?_
      rintro e w2 ⟨rfl, hb2⟩
      have Hb2 := Lib.hid (below_link Hb1.out hb2 Hb1.out.size)
      have h2 := heap_kept hb2 (heap_lt Hrow1.out) Hrow1.out
      have H2 := Lib.hid h2
      clear HQ hb2 Hw1 Hb1 Hrow1
      go_wp2_with (first | (refine wpList_store_row rfl 34 _ _ rfl w.heap.size #[.int .i64 0, .bool false, .int .i64 0, .string ⟨#[]⟩, .slice none 0 0, .slice none 0 0] rfl rfl 34 _ h2 tree_size' rfl (by simp [Value.oneCell']) ?_) | fail)
      refine bodyPost_ret (v := .tuple #[.agg #[.int .i64 0, .bool false, .int .i64 0, .string ⟨#[]⟩, .slice none 0 0, .slice none 0 0], .bool false]) ?_ rfl (rs_none H.out (setRow_below Hb2.out (Nat.le_refl _) _))
      exact ret_leaf rfl rfl rfl rfl (setRow_at H2.out))
set_option maxRecDepth 100000 in
set_option maxHeartbeats 4000000 in
theorem impl_wholeIn (s : ByteArray) (w : World) (hs : s.size ≤ 1048576) (hR : whole.ErrVar w "strconv.ErrRange") :
    Calls Tryz.prog 111 #[.string s] w (RsOut (numbF s) w) := by
  have hl := Lib.toList_data s
  obtain ⟨w1, hw1⟩ : ∃ w1, w1 = w.alloc (.cells #[.int .i64 0, .bool false, .int .i64 0, .string ⟨#[]⟩, .slice none 0 0, .slice none 0 0] 34) := ⟨_, rfl⟩
  have hb1 : Below w.heap.size w w1 := by rw [hw1]; exact (Below.refl _ _).alloc (Nat.le_refl _) _
  have hrow1 : w1.heap[w.heap.size]? = some (.cells #[.int .i64 0, .bool false, .int .i64 0, .string ⟨#[]⟩, .slice none 0 0, .slice none 0 0] 34 (0, 0)) := by rw [hw1]; exact heap_alloc_new w _
  have Hb1 := Lib.hid hb1
  have Hrow1 := Lib.hid hrow1
  have Hw1 := Lib.hid hw1
  have HQ := Lib.hid (whole.impl_whole s 0 w1 hs (hR.below hb1))
  clear hR
  obtain ⟨R, hR⟩ : ∃ R, numbF s = R := ⟨_, rfl⟩
  rw [hR]
  unfold numbF at hR
  generalize (whole.wholeF s 0).1 = x at HQ hR
  generalize (whole.wholeF s 0).2 = n at HQ hR
  clear hl hw1 hb1 hrow1
  by_cases hok : n = (s.size : Int)
  · rw [if_pos hok] at hR
    have H := Lib.hid hR.symm
    obtain rfl := hok
    have HT := Lib.hid (fun w => impl_intV x w)
    clear hR
    go_enter Tryz.func111, Tryz.ntmps111
    go_wp2_with fail
    rw [← Hw1.out]
    refine (HQ.out).mono ?_
    rintro e w2 ⟨rfl, hb2⟩
    have Hb2 := Lib.hid (below_link Hb1.out hb2 Hb1.out.size)
    have Hrow2 := Lib.hid (heap_kept hb2 (heap_lt Hrow1.out) Hrow1.out)
    clear HQ hb2 Hw1 Hb1 Hrow1
    go_wp2_with fail
    refine (HT.out _).mono ?_
    rintro e w3 ⟨rfl, hb3⟩
    have Hb3 := Lib.hid (below_link Hb2.out hb3 Hb2.out.size)
    have h3 := heap_kept hb3 (heap_lt Hrow2.out) Hrow2.out
    have H3 := Lib.hid h3
    clear HT hb3 Hb2 Hrow2
    go_wp2_with (first | (refine wpList_store_row rfl 34 _ _ rfl w.heap.size #[.int .i64 3, .bool false, .int .i64 x, .string ⟨#[]⟩, .slice none 0 0, .slice none 0 0] rfl rfl 34 _ h3 tree_size' rfl (by simp [Value.oneCell']) ?_) | fail)
    refine bodyPost_ret (v := .tuple #[.agg #[.int .i64 3, .bool false, .int .i64 x, .string ⟨#[]⟩, .slice none 0 0, .slice none 0 0], .bool true]) ?_ rfl (rs_some H.out (setRow_below Hb3.out (Nat.le_refl _) _))
    exact ret_leaf rfl rfl rfl rfl (setRow_at H3.out)
  · rw [if_neg hok] at hR
    have H := Lib.hid hR.symm
    have hg : (n != (s.size : Int)) = true := bne_iff_ne.2 hok
    clear hok hR
    go_enter Tryz.func111, Tryz.ntmps111
    go_wp2_with fail
    rw [← Hw1.out]
    refine (HQ.out).mono ?_
    rintro e w2 ⟨rfl, hb2⟩
    have Hb2 := Lib.hid (below_link Hb1.out hb2 Hb1.out.size)
    have h2 := heap_kept hb2 (heap_lt Hrow1.out) Hrow1.out
    have H2 := Lib.hid h2
    clear HQ hb2 Hw1 Hb1 Hrow1
    go_wp2_with (first | (refine wpList_store_row rfl 34 _ _ rfl w.heap.size #[.int .i64 0, .bool false, .int .i64 0, .string ⟨#[]⟩, .slice none 0 0, .slice none 0 0] rfl rfl 34 _ h2 tree_size' rfl (by simp [Value.oneCell']) ?_) | fail)
    refine bodyPost_ret (v := .tuple #[.agg #[.int .i64 0, .bool false, .int .i64 0, .string ⟨#[]⟩, .slice none 0 0, .slice none 0 0], .bool false]) ?_ rfl (rs_none H.out (setRow_below Hb2.out (Nat.le_refl _) _))
    exact ret_leaf rfl rfl rfl rfl (setRow_at H2.out)
set_option maxRecDepth 100000 in
set_option maxHeartbeats 4000000 in
theorem impl_plainIn (s : ByteArray) (w : World) (hs : s.size ≤ 1048576) (hT : rune.Tabs w) (hM : MaxL w) :
    Calls Tryz.prog 112 #[.string s] w (RsOut (plnF s) w) := by
  have hl := Lib.toList_data s
  obtain ⟨w1, hw1⟩ : ∃ w1, w1 = w.alloc (.cells #[.int .i64 0, .bool false, .int .i64 0, .string ⟨#[]⟩, .slice none 0 0, .slice none 0 0] 34) := ⟨_, rfl⟩
  have hb1 : Below w.heap.size w w1 := by rw [hw1]; exact (Below.refl _ _).alloc (Nat.le_refl _) _
  have hrow1 : w1.heap[w.heap.size]? = some (.cells #[.int .i64 0, .bool false, .int .i64 0, .string ⟨#[]⟩, .slice none 0 0, .slice none 0 0] 34 (0, 0)) := by rw [hw1]; exact heap_alloc_new w _
  have Hb1 := Lib.hid hb1
  have Hrow1 := Lib.hid hrow1
  have Hw1 := Lib.hid hw1
  have HQ := Lib.hid (impl_plain s w1 hs (hT.below hb1) (hM.below hb1))
  obtain ⟨R, hR⟩ : ∃ R, plnF s = R := ⟨_, rfl⟩
  rw [hR]
  unfold plnF at hR
  clear hl hw1 hb1 hrow1 hT hM
  cases hp : plainF s with
  | true =>
    rw [hp, if_pos rfl] at hR
    rw [hp] at HQ
    have H := Lib.hid hR.symm
    have HT := Lib.hid (fun w => impl_textV s w)
    clear hR hp
    go_enter Tryz.func112, Tryz.ntmps112
    go_wp2_with fail
    rw [← Hw1.out]
    refine (HQ.out).mono ?_
    rintro e w2 ⟨rfl, hb2⟩
    have Hb2 := Lib.hid (below_link Hb1.out hb2 Hb1.out.size)
    have Hrow2 := Lib.hid (heap_kept hb2 (heap_lt Hrow1.out) Hrow1.out)
    clear HQ hb2 Hw1 Hb1 Hrow1
    go_wp2_with fail
    refine (HT.out _).mono ?_
    rintro e w3 ⟨rfl, hb3⟩
    have Hb3 := Lib.hid (below_link Hb2.out hb3 Hb2.out.size)
    have h3 := heap_kept hb3 (heap_lt Hrow2.out) Hrow2.out
    have H3 := Lib.hid h3
    clear HT hb3 Hb2 Hrow2
    go_wp2_with (first | (refine wpList_store_row rfl 34 _ _ rfl w.heap.size #[.int .i64 4, .bool false, .int .i64 0, .string s, .slice none 0 0, .slice none 0 0] rfl rfl 34 _ h3 tree_size' rfl (by simp [Value.oneCell']) ?_) | fail)
    refine bodyPost_ret (v := .tuple #[.agg #[.int .i64 4, .bool false, .int .i64 0, .string s, .slice none 0 0, .slice none 0 0], .bool true]) ?_ rfl (rs_some H.out (setRow_below Hb3.out (Nat.le_refl _) _))
    exact ret_leaf rfl rfl rfl rfl (setRow_at H3.out)
  | false =>
    rw [hp, if_neg (by decide)] at hR
    rw [hp] at HQ
    have H := Lib.hid hR.symm
    clear hR hp
    go_enter Tryz.func112, Tryz.ntmps112
    go_wp2_with fail
    rw [← Hw1.out]
    refine (HQ.out).mono ?_
    rintro e w2 ⟨rfl, hb2⟩
    have Hb2 := Lib.hid (below_link Hb1.out hb2 Hb1.out.size)
    have h2 := heap_kept hb2 (heap_lt Hrow1.out) Hrow1.out
    have H2 := Lib.hid h2
    clear HQ hb2 Hw1 Hb1 Hrow1
    go_wp2_with (first | (refine wpList_store_row rfl 34 _ _ rfl w.heap.size #[.int .i64 0, .bool false, .int .i64 0, .string ⟨#[]⟩, .slice none 0 0, .slice none 0 0] rfl rfl 34 _ h2 tree_size' rfl (by simp [Value.oneCell']) ?_) | fail)
    refine bodyPost_ret (v := .tuple #[.agg #[.int .i64 0, .bool false, .int .i64 0, .string ⟨#[]⟩, .slice none 0 0, .slice none 0 0], .bool false]) ?_ rfl (rs_none H.out (setRow_below Hb2.out (Nat.le_refl _) _))
    exact ret_leaf rfl rfl rfl rfl (setRow_at H2.out)
end Go.Proofs.YtegpcjkcejijpaaGreatDoor.line
namespace Go.Proofs.YtegpcjkcejijpaaGreatDoor.line
open Go.ChangeShapes Go.WideShapes Go.ChangeAt Go.RowKit tree
set_option linter.unusedVariables false

def fv (n : Nat) : Value := .func (.func n) #[] #[]
noncomputable def parts (s : ByteArray) : List (Option T) := [emptyF s, nullF s, flagF s, quotF s, numbF s, plnF s]
noncomputable def part (s : ByteArray) (k : Nat) : Option T := (parts s).getD k none
theorem first_some (s : ByteArray) (k : Nat) (t : T) (hk : k < 6) (h : ∀ j, j < k → part s j = none) (h2 : part s k = some t) : scalarF s = some t := by
  rw [scalar_or]
  have e : ∀ j, j < k → (parts s).getD j none = none := h
  have e2 : (parts s).getD k none = some t := h2
  unfold parts at e e2
  obtain rfl | rfl | rfl | rfl | rfl | rfl : k = 0 ∨ k = 1 ∨ k = 2 ∨ k = 3 ∨ k = 4 ∨ k = 5 := by omega
  · simp only [List.getD_cons_zero] at e2; rw [e2]; rfl
  · have a0 := e 0 (by omega)
    simp only [List.getD_cons_zero, List.getD_cons_succ] at a0 e2; rw [a0, e2]; rfl
  · have a0 := e 0 (by omega); have a1 := e 1 (by omega)
    simp only [List.getD_cons_zero, List.getD_cons_succ] at a0 a1 e2; rw [a0, a1, e2]; rfl
  · have a0 := e 0 (by omega); have a1 := e 1 (by omega); have a2 := e 2 (by omega)
    simp only [List.getD_cons_zero, List.getD_cons_succ] at a0 a1 a2 e2; rw [a0, a1, a2, e2]; rfl
  · have a0 := e 0 (by omega); have a1 := e 1 (by omega); have a2 := e 2 (by omega); have a3 := e 3 (by omega)
    simp only [List.getD_cons_zero, List.getD_cons_succ] at a0 a1 a2 a3 e2; rw [a0, a1, a2, a3, e2]; rfl
  · have a0 := e 0 (by omega); have a1 := e 1 (by omega); have a2 := e 2 (by omega); have a3 := e 3 (by omega); have a4 := e 4 (by omega)
    simp only [List.getD_cons_zero, List.getD_cons_succ] at a0 a1 a2 a3 a4 e2; rw [a0, a1, a2, a3, a4, e2]; rfl
theorem first_none (s : ByteArray) (h : ∀ j, j < 6 → part s j = none) : scalarF s = none := by
  rw [scalar_or]
  have e : ∀ j, j < 6 → (parts s).getD j none = none := h
  unfold parts at e
  have a0 := e 0 (by omega); have a1 := e 1 (by omega); have a2 := e 2 (by omega); have a3 := e 3 (by omega); have a4 := e 4 (by omega); have a5 := e 5 (by omega)
  simp only [List.getD_cons_zero, List.getD_cons_succ] at a0 a1 a2 a3 a4 a5; rw [a0, a1, a2, a3, a4, a5]; rfl
theorem part_leaf (s : ByteArray) (k : Nat) (t : T) (h : part s k = some t) : Leaf t := by
  have e2 : (parts s).getD k none = some t := h
  unfold parts at e2
  have l0 : ∀ t, emptyF s = some t → Leaf t := leaf_if (fun _ => leaf_of (by omega) (by omega) z_wf z_size) (leaf_if (fun _ => leaf_of (by omega) (by omega) z_wf z_size) leaf_none)
  have l1 : ∀ t, nullF s = some t → Leaf t := leaf_if (fun _ => leaf_of (by omega) (by omega) z_wf z_size) leaf_none
  have l2 : ∀ t, flagF s = some t → Leaf t := leaf_if (fun _ => leaf_of (by omega) (by omega) z_wf z_size) (leaf_if (fun _ => leaf_of (by omega) (by omega) z_wf z_size) leaf_none)
  have l3 : ∀ t, quotF s = some t → Leaf t := leaf_if (fun h => leaf_of (by omega) (by omega) z_wf h.2) leaf_none
  have l4 : ∀ t, numbF s = some t → Leaf t := leaf_if (fun h => leaf_of (by omega) (by omega) (whole_wf s 0) z_size) leaf_none
  have l5 : ∀ t, plnF s = some t → Leaf t := leaf_if (fun h => leaf_of (by omega) (by omega) z_wf (plain_iff.1 h).le) leaf_none
  match k, e2 with
  | 0, e2 => exact l0 t e2
  | 1, e2 => exact l1 t e2
  | 2, e2 => exact l2 t e2
  | 3, e2 => exact l3 t e2
  | 4, e2 => exact l4 t e2
  | 5, e2 => exact l5 t e2
  | n + 6, e2 => simp at e2
def fns : Array Value := #[fv 107, fv 108, fv 109, fv 110, fv 111, fv 112]
theorem impl_parsers (w : World) :
    Calls Tryz.prog 58 #[] w fun e w' => e = .returned (.slice (some ⟨w.heap.size, 0, none⟩) 6 6) ∧ w' = w.alloc (.cells fns 70) := by
  go_enter Tryz.func58, Tryz.ntmps58
  go_wp2_with fail
  go_ret
  exact ⟨rfl, rfl⟩
end Go.Proofs.YtegpcjkcejijpaaGreatDoor.line
namespace Go.Proofs.YtegpcjkcejijpaaGreatDoor.line
open Go.ChangeShapes Go.WideShapes Go.ChangeAt Go.RowKit tree
set_option linter.unusedVariables false

set_option maxRecDepth 100000 in
set_option maxHeartbeats 8000000 in
theorem impl_rs (s : ByteArray) (w : World) (hs : s.size ≤ 1048576) (hT : rune.Tabs w) (hE : readq.ErrVar w "strconv.ErrSyntax") (hR : whole.ErrVar w "strconv.ErrRange") (hM : MaxL w) :
    Calls Tryz.prog 21 #[.string s] w (RsOut (scalarF s) w) := by
  obtain ⟨w1, hw1⟩ : ∃ w1, w1 = w.alloc (.cells #[.int .i64 0, .bool false, .int .i64 0, .string ⟨#[]⟩, .slice none 0 0, .slice none 0 0] 34) := ⟨_, rfl⟩
  have hb1 : Below w.heap.size w w1 := by rw [hw1]; exact (Below.refl _ _).alloc (Nat.le_refl _) _
  have hrow1 : w1.heap[w.heap.size]? = some (.cells #[.int .i64 0, .bool false, .int .i64 0, .string ⟨#[]⟩, .slice none 0 0, .slice none 0 0] 34 (0, 0)) := by rw [hw1]; exact heap_alloc_new w _
  have HP := Lib.hid (impl_parsers w1)
  have H0 : Hid (∀ w2, Below w.heap.size w w2 → Calls Tryz.prog 107 #[.string s] w2 (RsOut (part s 0) w2)) := fun w2 hb => impl_emptyIn s w2
  have H1 : Hid (∀ w2, Below w.heap.size w w2 → Calls Tryz.prog 108 #[.string s] w2 (RsOut (part s 1) w2)) := fun w2 hb => impl_nullIn s w2
  have H2 : Hid (∀ w2, Below w.heap.size w w2 → Calls Tryz.prog 109 #[.string s] w2 (RsOut (part s 2) w2)) := fun w2 hb => impl_flagIn s w2
  have H3 : Hid (∀ w2, Below w.heap.size w w2 → Calls Tryz.prog 110 #[.string s] w2 (RsOut (part s 3) w2)) := fun w2 hb => impl_quotedIn s w2 hs (hT.below hb) (hE.below hb)
  have H4 : Hid (∀ w2, Below w.heap.size w w2 → Calls Tryz.prog 111 #[.string s] w2 (RsOut (part s 4) w2)) := fun w2 hb => impl_wholeIn s w2 hs (hR.below hb)
  have H5 : Hid (∀ w2, Below w.heap.size w w2 → Calls Tryz.prog 112 #[.string s] w2 (RsOut (part s 5) w2)) := fun w2 hb => impl_plainIn s w2 hs (hT.below hb) (hM.below hb)
  have HL := Lib.hid (part_leaf s)
  have HS := Lib.hid (first_some s)
  have HN := Lib.hid (first_none s)
  obtain ⟨R, hR⟩ : ∃ R, scalarF s = R := ⟨_, rfl⟩
  rw [hR] at HS HN ⊢
  generalize part s = pt at H0 H1 H2 H3 H4 H5 HL HS HN
  have Hb1 := Lib.hid hb1
  have Hrow1 := Lib.hid hrow1
  have Hw1 := Lib.hid hw1
  clear hb1 hrow1 hw1 hT hE hM
  go_enter Tryz.func21, Tryz.ntmps21
  go_wp2_with fail
  rw [← Hw1.out]
  refine HP.out.mono ?_
  rintro e w2 ⟨rfl, hw2⟩
  have hb12 : Below w1.heap.size w1 w2 := by rw [hw2]; exact (Below.refl _ _).alloc (Nat.le_refl _) _
  have Hrow2 := Lib.hid (heap_kept hb12 (heap_lt Hrow1.out) Hrow1.out)
  have Hfn2 : Hid (w2.heap[w1.heap.size]? = some (.cells fns 70 (0, 0))) := by unfold Hid; rw [hw2]; exact heap_alloc_new w1 _
  have Hb2 := Lib.hid (below_link Hb1.out hb12 Hb1.out.size)
  generalize w1.heap.size = g at Hfn2
  clear hw2 hb12 HP Hb1 Hrow1 Hw1
  go_wp2_with fail
  go_loopw [10] (fun i wr => ∃ k : Nat, k ≤ 6 ∧ i = .int .i64 k ∧ Hid (∀ j, j < k → pt j = none) ∧ wr.heap[w.heap.size]? = some (.cells #[.int .i64 0, .bool false, .int .i64 0, .string ⟨#[]⟩, .slice none 0 0, .slice none 0 0] 34 (0, 0)) ∧ wr.heap[g]? = some (.cells fns 70 (0, 0)) ∧ Below w.heap.size w wr) (fun i _ => 6 - (intOf i).toNat)
  case atStart => exact ⟨0, Nat.zero_le _, rfl, fun j hj => absurd hj (Nat.not_lt_zero _), Hrow2.out, Hfn2.out, Hb2.out⟩
  case round =>
    clear Hrow2 Hfn2 Hb2
    obtain ⟨k, hk, rfl, hno, hrow, hfn, hbw⟩ := hrel
    have Hrow := Lib.hid hrow
    have Hfn := Lib.hid hfn
    have Hbw := Lib.hid hbw
    clear hrow hfn hbw
    obtain rfl | rfl | rfl | rfl | rfl | rfl | rfl : k = 0 ∨ k = 1 ∨ k = 2 ∨ k = 3 ∨ k = 4 ∨ k = 5 ∨ k = 6 := by omega
    · have hcell : wr.cell? ⟨g, 0, none⟩ = some (fv 107) := by rw [cell_of_row wr g 0 _ 70 (0, 0) Hfn.out]; rfl
      unfold fv at hcell
      have HC := Lib.hid (H0.out wr Hbw.out)
      obtain ⟨p, hp⟩ : ∃ p, pt 0 = p := ⟨_, rfl⟩
      rw [hp] at HC
      cases p with
      | none =>
        have Hno : Hid (∀ j, j < 0 + 1 → pt j = none) := fun j hj => by
          by_cases e : j = 0
          · rw [e]; exact hp
          · exact hno.out j (by omega)
        clear hp hno HS HN HL H0 H1 H2 H3 H4 H5
        go_wp2_with fail
        refine HC.out.mono ?_
        rintro e w3 ⟨rfl, hb3⟩
        have Hrow3 := Lib.hid (heap_kept hb3 (heap_lt Hrow.out) Hrow.out)
        have Hfn3 := Lib.hid (heap_kept hb3 (heap_lt Hfn.out) Hfn.out)
        have Hb3 := Lib.hid (below_link Hbw.out hb3 Hbw.out.size)
        clear HC hb3 Hrow Hfn Hbw hcell
        go_wp2_with fail
        go_roundw
        case rel => exact ⟨0 + 1, by omega, by go_num, Hno, (Below.heap_alloc w3 _ w.heap.size (heap_lt Hrow3.out)).trans Hrow3.out, (Below.heap_alloc w3 _ g (heap_lt Hfn3.out)).trans Hfn3.out, Hb3.out.alloc (Hb3.out.size) _⟩
        case measure => simp [intOf]
      | some t =>
        have H := Lib.hid (HS.out 0 t (by decide) hno.out hp)
        have hlf := (HL.out 0 t hp).eq
        have HC2 : Hid (Calls Tryz.prog 107 #[.string s] wr fun e w' => e = .returned (.tuple #[.agg #[.int .i64 t.kind, .bool t.flag, .int .i64 t.num, .string t.text, .slice none 0 0, .slice none 0 0], .bool true]) ∧ Below wr.heap.size wr w') := HC.out
        have Hfin : Hid (R = some (leafT t.kind t.flag t.num t.text)) := by unfold Hid; rw [H.out, ← hlf]
        clear hlf H
        generalize t.kind = xk at HC2 Hfin
        generalize t.flag = xf at HC2 Hfin
        generalize t.num = xn at HC2 Hfin
        generalize t.text = xs at HC2 Hfin
        clear hp hno HS HN HL H0 H1 H2 H3 H4 H5 HC
        go_wp2_with fail
        refine HC2.out.mono ?_
        rintro e w3 ⟨rfl, hb3⟩
        have hrow3 := heap_kept hb3 (heap_lt Hrow.out) Hrow.out
        have Hb3 := Lib.hid (below_link Hbw.out hb3 Hbw.out.size)
        have hrow4 := fun o => (Below.heap_alloc w3 o w.heap.size (heap_lt hrow3)).trans hrow3
        have Hrow4 := Lib.hid hrow4
        clear HC2 hb3 Hrow Hfn Hbw hcell hrow3
        go_wp2_with (first | (refine wpList_store_row rfl 34 _ _ rfl w.heap.size #[.int .i64 xk, .bool xf, .int .i64 xn, .string xs, .slice none 0 0, .slice none 0 0] rfl rfl 34 _ (hrow4 _) tree_size' rfl (by simp [Value.oneCell']) ?_) | fail)
        refine bodyPost_ret (v := .tuple #[.agg #[.int .i64 xk, .bool xf, .int .i64 xn, .string xs, .slice none 0 0, .slice none 0 0], .bool true]) ?_ rfl (rs_some Hfin.out (setRow_below (Hb3.out.alloc Hb3.out.size _) (Nat.le_refl _) _))
        exact ret_leaf rfl rfl rfl rfl (setRow_at (Hrow4.out _))
    · have hcell : wr.cell? ⟨g, 1, none⟩ = some (fv 108) := by rw [cell_of_row wr g 1 _ 70 (0, 0) Hfn.out]; rfl
      unfold fv at hcell
      have HC := Lib.hid (H1.out wr Hbw.out)
      obtain ⟨p, hp⟩ : ∃ p, pt 1 = p := ⟨_, rfl⟩
      rw [hp] at HC
      cases p with
      | none =>
        have Hno : Hid (∀ j, j < 1 + 1 → pt j = none) := fun j hj => by
          by_cases e : j = 1
          · rw [e]; exact hp
          · exact hno.out j (by omega)
        clear hp hno HS HN HL H0 H1 H2 H3 H4 H5
        go_wp2_with fail
        refine HC.out.mono ?_
        rintro e w3 ⟨rfl, hb3⟩
        have Hrow3 := Lib.hid (heap_kept hb3 (heap_lt Hrow.out) Hrow.out)
        have Hfn3 := Lib.hid (heap_kept hb3 (heap_lt Hfn.out) Hfn.out)
        have Hb3 := Lib.hid (below_link Hbw.out hb3 Hbw.out.size)
        clear HC hb3 Hrow Hfn Hbw hcell
        go_wp2_with fail
        go_roundw
        case rel => exact ⟨1 + 1, by omega, by go_num, Hno, (Below.heap_alloc w3 _ w.heap.size (heap_lt Hrow3.out)).trans Hrow3.out, (Below.heap_alloc w3 _ g (heap_lt Hfn3.out)).trans Hfn3.out, Hb3.out.alloc (Hb3.out.size) _⟩
        case measure => simp [intOf]
      | some t =>
        have H := Lib.hid (HS.out 1 t (by decide) hno.out hp)
        have hlf := (HL.out 1 t hp).eq
        have HC2 : Hid (Calls Tryz.prog 108 #[.string s] wr fun e w' => e = .returned (.tuple #[.agg #[.int .i64 t.kind, .bool t.flag, .int .i64 t.num, .string t.text, .slice none 0 0, .slice none 0 0], .bool true]) ∧ Below wr.heap.size wr w') := HC.out
        have Hfin : Hid (R = some (leafT t.kind t.flag t.num t.text)) := by unfold Hid; rw [H.out, ← hlf]
        clear hlf H
        generalize t.kind = xk at HC2 Hfin
        generalize t.flag = xf at HC2 Hfin
        generalize t.num = xn at HC2 Hfin
        generalize t.text = xs at HC2 Hfin
        clear hp hno HS HN HL H0 H1 H2 H3 H4 H5 HC
        go_wp2_with fail
        refine HC2.out.mono ?_
        rintro e w3 ⟨rfl, hb3⟩
        have hrow3 := heap_kept hb3 (heap_lt Hrow.out) Hrow.out
        have Hb3 := Lib.hid (below_link Hbw.out hb3 Hbw.out.size)
        have hrow4 := fun o => (Below.heap_alloc w3 o w.heap.size (heap_lt hrow3)).trans hrow3
        have Hrow4 := Lib.hid hrow4
        clear HC2 hb3 Hrow Hfn Hbw hcell hrow3
        go_wp2_with (first | (refine wpList_store_row rfl 34 _ _ rfl w.heap.size #[.int .i64 xk, .bool xf, .int .i64 xn, .string xs, .slice none 0 0, .slice none 0 0] rfl rfl 34 _ (hrow4 _) tree_size' rfl (by simp [Value.oneCell']) ?_) | fail)
        refine bodyPost_ret (v := .tuple #[.agg #[.int .i64 xk, .bool xf, .int .i64 xn, .string xs, .slice none 0 0, .slice none 0 0], .bool true]) ?_ rfl (rs_some Hfin.out (setRow_below (Hb3.out.alloc Hb3.out.size _) (Nat.le_refl _) _))
        exact ret_leaf rfl rfl rfl rfl (setRow_at (Hrow4.out _))
    · have hcell : wr.cell? ⟨g, 2, none⟩ = some (fv 109) := by rw [cell_of_row wr g 2 _ 70 (0, 0) Hfn.out]; rfl
      unfold fv at hcell
      have HC := Lib.hid (H2.out wr Hbw.out)
      obtain ⟨p, hp⟩ : ∃ p, pt 2 = p := ⟨_, rfl⟩
      rw [hp] at HC
      cases p with
      | none =>
        have Hno : Hid (∀ j, j < 2 + 1 → pt j = none) := fun j hj => by
          by_cases e : j = 2
          · rw [e]; exact hp
          · exact hno.out j (by omega)
        clear hp hno HS HN HL H0 H1 H2 H3 H4 H5
        go_wp2_with fail
        refine HC.out.mono ?_
        rintro e w3 ⟨rfl, hb3⟩
        have Hrow3 := Lib.hid (heap_kept hb3 (heap_lt Hrow.out) Hrow.out)
        have Hfn3 := Lib.hid (heap_kept hb3 (heap_lt Hfn.out) Hfn.out)
        have Hb3 := Lib.hid (below_link Hbw.out hb3 Hbw.out.size)
        clear HC hb3 Hrow Hfn Hbw hcell
        go_wp2_with fail
        go_roundw
        case rel => exact ⟨2 + 1, by omega, by go_num, Hno, (Below.heap_alloc w3 _ w.heap.size (heap_lt Hrow3.out)).trans Hrow3.out, (Below.heap_alloc w3 _ g (heap_lt Hfn3.out)).trans Hfn3.out, Hb3.out.alloc (Hb3.out.size) _⟩
        case measure => simp [intOf]
      | some t =>
        have H := Lib.hid (HS.out 2 t (by decide) hno.out hp)
        have hlf := (HL.out 2 t hp).eq
        have HC2 : Hid (Calls Tryz.prog 109 #[.string s] wr fun e w' => e = .returned (.tuple #[.agg #[.int .i64 t.kind, .bool t.flag, .int .i64 t.num, .string t.text, .slice none 0 0, .slice none 0 0], .bool true]) ∧ Below wr.heap.size wr w') := HC.out
        have Hfin : Hid (R = some (leafT t.kind t.flag t.num t.text)) := by unfold Hid; rw [H.out, ← hlf]
        clear hlf H
        generalize t.kind = xk at HC2 Hfin
        generalize t.flag = xf at HC2 Hfin
        generalize t.num = xn at HC2 Hfin
        generalize t.text = xs at HC2 Hfin
        clear hp hno HS HN HL H0 H1 H2 H3 H4 H5 HC
        go_wp2_with fail
        refine HC2.out.mono ?_
        rintro e w3 ⟨rfl, hb3⟩
        have hrow3 := heap_kept hb3 (heap_lt Hrow.out) Hrow.out
        have Hb3 := Lib.hid (below_link Hbw.out hb3 Hbw.out.size)
        have hrow4 := fun o => (Below.heap_alloc w3 o w.heap.size (heap_lt hrow3)).trans hrow3
        have Hrow4 := Lib.hid hrow4
        clear HC2 hb3 Hrow Hfn Hbw hcell hrow3
        go_wp2_with (first | (refine wpList_store_row rfl 34 _ _ rfl w.heap.size #[.int .i64 xk, .bool xf, .int .i64 xn, .string xs, .slice none 0 0, .slice none 0 0] rfl rfl 34 _ (hrow4 _) tree_size' rfl (by simp [Value.oneCell']) ?_) | fail)
        refine bodyPost_ret (v := .tuple #[.agg #[.int .i64 xk, .bool xf, .int .i64 xn, .string xs, .slice none 0 0, .slice none 0 0], .bool true]) ?_ rfl (rs_some Hfin.out (setRow_below (Hb3.out.alloc Hb3.out.size _) (Nat.le_refl _) _))
        exact ret_leaf rfl rfl rfl rfl (setRow_at (Hrow4.out _))
    · have hcell : wr.cell? ⟨g, 3, none⟩ = some (fv 110) := by rw [cell_of_row wr g 3 _ 70 (0, 0) Hfn.out]; rfl
      unfold fv at hcell
      have HC := Lib.hid (H3.out wr Hbw.out)
      obtain ⟨p, hp⟩ : ∃ p, pt 3 = p := ⟨_, rfl⟩
      rw [hp] at HC
      cases p with
      | none =>
        have Hno : Hid (∀ j, j < 3 + 1 → pt j = none) := fun j hj => by
          by_cases e : j = 3
          · rw [e]; exact hp
          · exact hno.out j (by omega)
        clear hp hno HS HN HL H0 H1 H2 H3 H4 H5
        go_wp2_with fail
        refine HC.out.mono ?_
        rintro e w3 ⟨rfl, hb3⟩
        have Hrow3 := Lib.hid (heap_kept hb3 (heap_lt Hrow.out) Hrow.out)
        have Hfn3 := Lib.hid (heap_kept hb3 (heap_lt Hfn.out) Hfn.out)
        have Hb3 := Lib.hid (below_link Hbw.out hb3 Hbw.out.size)
        clear HC hb3 Hrow Hfn Hbw hcell
        go_wp2_with fail
        go_roundw
        case rel => exact ⟨3 + 1, by omega, by go_num, Hno, (Below.heap_alloc w3 _ w.heap.size (heap_lt Hrow3.out)).trans Hrow3.out, (Below.heap_alloc w3 _ g (heap_lt Hfn3.out)).trans Hfn3.out, Hb3.out.alloc (Hb3.out.size) _⟩
        case measure => simp [intOf]
      | some t =>
        have H := Lib.hid (HS.out 3 t (by decide) hno.out hp)
        have hlf := (HL.out 3 t hp).eq
        have HC2 : Hid (Calls Tryz.prog 110 #[.string s] wr fun e w' => e = .returned (.tuple #[.agg #[.int .i64 t.kind, .bool t.flag, .int .i64 t.num, .string t.text, .slice none 0 0, .slice none 0 0], .bool true]) ∧ Below wr.heap.size wr w') := HC.out
        have Hfin : Hid (R = some (leafT t.kind t.flag t.num t.text)) := by unfold Hid; rw [H.out, ← hlf]
        clear hlf H
        generalize t.kind = xk at HC2 Hfin
        generalize t.flag = xf at HC2 Hfin
        generalize t.num = xn at HC2 Hfin
        generalize t.text = xs at HC2 Hfin
        clear hp hno HS HN HL H0 H1 H2 H3 H4 H5 HC
        go_wp2_with fail
        refine HC2.out.mono ?_
        rintro e w3 ⟨rfl, hb3⟩
        have hrow3 := heap_kept hb3 (heap_lt Hrow.out) Hrow.out
        have Hb3 := Lib.hid (below_link Hbw.out hb3 Hbw.out.size)
        have hrow4 := fun o => (Below.heap_alloc w3 o w.heap.size (heap_lt hrow3)).trans hrow3
        have Hrow4 := Lib.hid hrow4
        clear HC2 hb3 Hrow Hfn Hbw hcell hrow3
        go_wp2_with (first | (refine wpList_store_row rfl 34 _ _ rfl w.heap.size #[.int .i64 xk, .bool xf, .int .i64 xn, .string xs, .slice none 0 0, .slice none 0 0] rfl rfl 34 _ (hrow4 _) tree_size' rfl (by simp [Value.oneCell']) ?_) | fail)
        refine bodyPost_ret (v := .tuple #[.agg #[.int .i64 xk, .bool xf, .int .i64 xn, .string xs, .slice none 0 0, .slice none 0 0], .bool true]) ?_ rfl (rs_some Hfin.out (setRow_below (Hb3.out.alloc Hb3.out.size _) (Nat.le_refl _) _))
        exact ret_leaf rfl rfl rfl rfl (setRow_at (Hrow4.out _))
    · have hcell : wr.cell? ⟨g, 4, none⟩ = some (fv 111) := by rw [cell_of_row wr g 4 _ 70 (0, 0) Hfn.out]; rfl
      unfold fv at hcell
      have HC := Lib.hid (H4.out wr Hbw.out)
      obtain ⟨p, hp⟩ : ∃ p, pt 4 = p := ⟨_, rfl⟩
      rw [hp] at HC
      cases p with
      | none =>
        have Hno : Hid (∀ j, j < 4 + 1 → pt j = none) := fun j hj => by
          by_cases e : j = 4
          · rw [e]; exact hp
          · exact hno.out j (by omega)
        clear hp hno HS HN HL H0 H1 H2 H3 H4 H5
        go_wp2_with fail
        refine HC.out.mono ?_
        rintro e w3 ⟨rfl, hb3⟩
        have Hrow3 := Lib.hid (heap_kept hb3 (heap_lt Hrow.out) Hrow.out)
        have Hfn3 := Lib.hid (heap_kept hb3 (heap_lt Hfn.out) Hfn.out)
        have Hb3 := Lib.hid (below_link Hbw.out hb3 Hbw.out.size)
        clear HC hb3 Hrow Hfn Hbw hcell
        go_wp2_with fail
        go_roundw
        case rel => exact ⟨4 + 1, by omega, by go_num, Hno, (Below.heap_alloc w3 _ w.heap.size (heap_lt Hrow3.out)).trans Hrow3.out, (Below.heap_alloc w3 _ g (heap_lt Hfn3.out)).trans Hfn3.out, Hb3.out.alloc (Hb3.out.size) _⟩
        case measure => simp [intOf]
      | some t =>
        have H := Lib.hid (HS.out 4 t (by decide) hno.out hp)
        have hlf := (HL.out 4 t hp).eq
        have HC2 : Hid (Calls Tryz.prog 111 #[.string s] wr fun e w' => e = .returned (.tuple #[.agg #[.int .i64 t.kind, .bool t.flag, .int .i64 t.num, .string t.text, .slice none 0 0, .slice none 0 0], .bool true]) ∧ Below wr.heap.size wr w') := HC.out
        have Hfin : Hid (R = some (leafT t.kind t.flag t.num t.text)) := by unfold Hid; rw [H.out, ← hlf]
        clear hlf H
        generalize t.kind = xk at HC2 Hfin
        generalize t.flag = xf at HC2 Hfin
        generalize t.num = xn at HC2 Hfin
        generalize t.text = xs at HC2 Hfin
        clear hp hno HS HN HL H0 H1 H2 H3 H4 H5 HC
        go_wp2_with fail
        refine HC2.out.mono ?_
        rintro e w3 ⟨rfl, hb3⟩
        have hrow3 := heap_kept hb3 (heap_lt Hrow.out) Hrow.out
        have Hb3 := Lib.hid (below_link Hbw.out hb3 Hbw.out.size)
        have hrow4 := fun o => (Below.heap_alloc w3 o w.heap.size (heap_lt hrow3)).trans hrow3
        have Hrow4 := Lib.hid hrow4
        clear HC2 hb3 Hrow Hfn Hbw hcell hrow3
        go_wp2_with (first | (refine wpList_store_row rfl 34 _ _ rfl w.heap.size #[.int .i64 xk, .bool xf, .int .i64 xn, .string xs, .slice none 0 0, .slice none 0 0] rfl rfl 34 _ (hrow4 _) tree_size' rfl (by simp [Value.oneCell']) ?_) | fail)
        refine bodyPost_ret (v := .tuple #[.agg #[.int .i64 xk, .bool xf, .int .i64 xn, .string xs, .slice none 0 0, .slice none 0 0], .bool true]) ?_ rfl (rs_some Hfin.out (setRow_below (Hb3.out.alloc Hb3.out.size _) (Nat.le_refl _) _))
        exact ret_leaf rfl rfl rfl rfl (setRow_at (Hrow4.out _))
    · have hcell : wr.cell? ⟨g, 5, none⟩ = some (fv 112) := by rw [cell_of_row wr g 5 _ 70 (0, 0) Hfn.out]; rfl
      unfold fv at hcell
      have HC := Lib.hid (H5.out wr Hbw.out)
      obtain ⟨p, hp⟩ : ∃ p, pt 5 = p := ⟨_, rfl⟩
      rw [hp] at HC
      cases p with
      | none =>
        have Hno : Hid (∀ j, j < 5 + 1 → pt j = none) := fun j hj => by
          by_cases e : j = 5
          · rw [e]; exact hp
          · exact hno.out j (by omega)
        clear hp hno HS HN HL H0 H1 H2 H3 H4 H5
        go_wp2_with fail
        refine HC.out.mono ?_
        rintro e w3 ⟨rfl, hb3⟩
        have Hrow3 := Lib.hid (heap_kept hb3 (heap_lt Hrow.out) Hrow.out)
        have Hfn3 := Lib.hid (heap_kept hb3 (heap_lt Hfn.out) Hfn.out)
        have Hb3 := Lib.hid (below_link Hbw.out hb3 Hbw.out.size)
        clear HC hb3 Hrow Hfn Hbw hcell
        go_wp2_with fail
        go_roundw
        case rel => exact ⟨5 + 1, by omega, by go_num, Hno, (Below.heap_alloc w3 _ w.heap.size (heap_lt Hrow3.out)).trans Hrow3.out, (Below.heap_alloc w3 _ g (heap_lt Hfn3.out)).trans Hfn3.out, Hb3.out.alloc (Hb3.out.size) _⟩
        case measure => simp [intOf]
      | some t =>
        have H := Lib.hid (HS.out 5 t (by decide) hno.out hp)
        have hlf := (HL.out 5 t hp).eq
        have HC2 : Hid (Calls Tryz.prog 112 #[.string s] wr fun e w' => e = .returned (.tuple #[.agg #[.int .i64 t.kind, .bool t.flag, .int .i64 t.num, .string t.text, .slice none 0 0, .slice none 0 0], .bool true]) ∧ Below wr.heap.size wr w') := HC.out
        have Hfin : Hid (R = some (leafT t.kind t.flag t.num t.text)) := by unfold Hid; rw [H.out, ← hlf]
        clear hlf H
        generalize t.kind = xk at HC2 Hfin
        generalize t.flag = xf at HC2 Hfin
        generalize t.num = xn at HC2 Hfin
        generalize t.text = xs at HC2 Hfin
        clear hp hno HS HN HL H0 H1 H2 H3 H4 H5 HC
        go_wp2_with fail
        refine HC2.out.mono ?_
        rintro e w3 ⟨rfl, hb3⟩
        have hrow3 := heap_kept hb3 (heap_lt Hrow.out) Hrow.out
        have Hb3 := Lib.hid (below_link Hbw.out hb3 Hbw.out.size)
        have hrow4 := fun o => (Below.heap_alloc w3 o w.heap.size (heap_lt hrow3)).trans hrow3
        have Hrow4 := Lib.hid hrow4
        clear HC2 hb3 Hrow Hfn Hbw hcell hrow3
        go_wp2_with (first | (refine wpList_store_row rfl 34 _ _ rfl w.heap.size #[.int .i64 xk, .bool xf, .int .i64 xn, .string xs, .slice none 0 0, .slice none 0 0] rfl rfl 34 _ (hrow4 _) tree_size' rfl (by simp [Value.oneCell']) ?_) | fail)
        refine bodyPost_ret (v := .tuple #[.agg #[.int .i64 xk, .bool xf, .int .i64 xn, .string xs, .slice none 0 0, .slice none 0 0], .bool true]) ?_ rfl (rs_some Hfin.out (setRow_below (Hb3.out.alloc Hb3.out.size _) (Nat.le_refl _) _))
        exact ret_leaf rfl rfl rfl rfl (setRow_at (Hrow4.out _))
    · have H := Lib.hid (HN.out hno.out)
      have hrow := Hrow.out
      clear hno HS HN HL H0 H1 H2 H3 H4 H5
      go_wp2_with (first | (refine wpList_store_row rfl 34 _ _ rfl w.heap.size #[.int .i64 0, .bool false, .int .i64 0, .string ⟨#[]⟩, .slice none 0 0, .slice none 0 0] rfl rfl 34 _ hrow tree_size' rfl (by simp [Value.oneCell']) ?_) | fail)
      refine bodyPost_ret (v := .tuple #[.agg #[.int .i64 0, .bool false, .int .i64 0, .string ⟨#[]⟩, .slice none 0 0, .slice none 0 0], .bool false]) ?_ rfl (rs_none H.out (setRow_below Hbw.out (Nat.le_refl _) _))
      exact ret_leaf rfl rfl rfl rfl (setRow_at Hrow.out)
end Go.Proofs.YtegpcjkcejijpaaGreatDoor.line
