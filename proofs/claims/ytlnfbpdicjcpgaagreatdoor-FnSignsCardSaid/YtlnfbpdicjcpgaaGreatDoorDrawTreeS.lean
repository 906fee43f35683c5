/- spec.l08Tree, one level more. Printed by gen/gen_drawtree.py step. -/
import Derived.Test.YtlnfbpdicjcpgaaGreatDoorDrawTree
namespace Go.Proofs.YtlnfbpdicjcpgaaGreatDoor.tree
open Go.ChangeShapes Go.WideShapes Go.ChangeAt Go.RowKit draw
set_option linter.unusedVariables false
set_option maxRecDepth 1000000 in
set_option maxHeartbeats 8000000 in
theorem tree_step (d : Nat) (deep : Int) (hd1 : 2 ≤ deep) (hd2 : deep ≤ 4) (hd : d ≤ 2) (IH : ∀ (c : Nat) (A : Option Addr) (len cap : Nat) (z : Nat → Int) (w : World), Cur w c A len cap z → Calls Tryz.prog 13 #[.pointer (some ⟨c, 0, none⟩), .int .i64 (deep - 1)] w (GotT d c A len cap z w)) (c : Nat) (A : Option Addr) (len cap : Nat) (z : Nat → Int) (w : World) (hc : Cur w c A len cap z) :
    Calls Tryz.prog 13 #[.pointer (some ⟨c, 0, none⟩), .int .i64 deep] w (GotT (d + 1) c A len cap z w) := by
  have hcw := hc.lt
  have HIH := Lib.hid IH
  have e1 : ¬ deep ≤ 1 := by omega
  have e2 : decide (deep ≤ 1) = false := decide_eq_false e1
  clear IH
  obtain ⟨w1, hw1⟩ : ∃ w1, w1 = w.alloc (.cells #[.int .i64 0, .bool false, .int .i64 0, .string ⟨#[]⟩, .slice none 0 0, .slice none 0 0] 28) := ⟨_, rfl⟩
  have hz1 : w1.heap[w.heap.size]? = some (.cells #[.int .i64 0, .bool false, .int .i64 0, .string ⟨#[]⟩, .slice none 0 0, .slice none 0 0] 28 (0, 0)) := by subst hw1; exact heap_alloc_new w _
  have H9 := Lib.hid (below_any c A len cap z 9 w1 (by rw [hw1]; exact cur_alloc hc _) (by decide) (by decide))
  have Hz1 := Lib.hid hz1
  have Hg1 := Lib.hid (show w.grownBy w1 (some c) by rw [hw1]; exact grown_alloc _ _ _)
  have Hw1 := Lib.hid hw1
  have Hcw := Lib.hid hcw
  clear hc hcw hz1 hw1
  go_enter Tryz.func13, Tryz.ntmps13
  go_wp2_with fail
  rw [← Hw1.out]
  refine H9.out.mono ?_
  rintro e w2 ⟨x, hx, rfl, hc2, hg2⟩
  have Hz2 := Lib.hid (kept_block hg2 Hcw.out Hz1.out)
  have Hc2 := Lib.hid hc2
  have Hg2 := Lib.hid (grown_trans Hg1.out hg2)
  clear H9 hc2 hg2 Hw1
  obtain ⟨i1, hi', hy0, hy1, hy2⟩ := info_parts TryzinfoTree'
  have hxs : x = 0 ∨ x = 1 ∨ x = 2 ∨ x = 3 ∨ x = 4 ∨ x = 5 ∨ x = 6 ∨ 7 ≤ x := by omega
  obtain rfl | rfl | rfl | rfl | rfl | rfl | rfl | h7 := hxs
  · clear hx
    have hone : (#[.int .i64 1, .bool false, .int .i64 0, .string ⟨#[]⟩, .slice none 0 0, .slice none 0 0] : Array Value).all (·.oneCell') = true := by simp [Value.oneCell']
    have hz9 := Hz2.out
    go_wp2_with (first | (refine wpList_store_row rfl 28 _ _ rfl w.heap.size #[.int .i64 1, .bool false, .int .i64 0, .string ⟨#[]⟩, .slice none 0 0, .slice none 0 0] rfl rfl 28 _ hz9 tree_size' rfl hone ?_) | fail)
    refine bodyPost_ret (v := .agg #[.int .i64 1, .bool false, .int .i64 0, .string ⟨#[]⟩, .slice none 0 0, .slice none 0 0]) ?_ rfl (got_set Hg2.out Hc2.out Hcw.out (Good.leaf (fit_leaf (by decide) (by decide) (by simp) (by simp) (by simp [ByteArray.size])) empty_word (by decide)) (own_leaf' (by decide) (by decide) (wf_small (by decide) (by decide)) (by decide)) List.nodup_nil)
    exact ret_tree rfl rfl rfl (setRow_at Hz2.out)
  · clear hx
    have HO := Lib.hid (once_any c A len cap z 2 w2 Hc2.out (by decide) (by decide))
    go_wp2_with fail
    refine HO.out.mono ?_
    rintro e w3 ⟨b, rfl, hc3, hg3⟩
    have Hz3 := Lib.hid (kept_block hg3 Hcw.out Hz2.out)
    have Hc3 := Lib.hid hc3
    have Hg3 := Lib.hid (grown_trans Hg2.out hg3)
    clear HO hc3 hg3
    have hone : (#[.int .i64 2, .bool b, .int .i64 0, .string ⟨#[]⟩, .slice none 0 0, .slice none 0 0] : Array Value).all (·.oneCell') = true := by simp [Value.oneCell']
    have hz9 := Hz3.out
    go_wp2_with (first | (refine wpList_store_row rfl 28 _ _ rfl w.heap.size #[.int .i64 2, .bool b, .int .i64 0, .string ⟨#[]⟩, .slice none 0 0, .slice none 0 0] rfl rfl 28 _ hz9 tree_size' rfl hone ?_) | fail)
    refine bodyPost_ret (v := .agg #[.int .i64 2, .bool b, .int .i64 0, .string ⟨#[]⟩, .slice none 0 0, .slice none 0 0]) ?_ rfl (got_set Hg3.out Hc3.out Hcw.out (Good.leaf (fit_leaf (by decide) (by decide) (by simp) (by simp) (by simp [ByteArray.size])) empty_word (by decide)) (own_leaf' (by decide) (by decide) (wf_small (by decide) (by decide)) (by decide)) List.nodup_nil)
    exact ret_tree rfl rfl rfl (setRow_at Hz3.out)
  · clear hx
    have HN := Lib.hid (num_any c A len cap z w2 Hc2.out)
    go_wp2_with fail
    refine HN.out.mono ?_
    rintro e w3 ⟨n, hn, rfl, hc3, hg3⟩
    have Hz3 := Lib.hid (kept_block hg3 Hcw.out Hz2.out)
    have Hg3 := Lib.hid (grown_trans Hg2.out hg3)
    have HP := Lib.hid (pick_any c A len cap z w3.heap.size 7 7 [0, 1, -1, 42, 9223372036854775807, -9223372036854775808, n] _ (cur_alloc hc3 (.cells (icells [0, 1, -1, 42, 9223372036854775807, -9223372036854775808, n]).toArray 3)) (by decide) (by decide) rfl hc3.lt (heap_alloc_new w3 _))
    have hI : ∀ x ∈ [0, 1, -1, 42, 9223372036854775807, -9223372036854775808, n], I64 x := by
      intro x hx
      simp only [List.mem_cons, List.not_mem_nil, or_false] at hx
      rcases hx with rfl | rfl | rfl | rfl | rfl | rfl | rfl
      all_goals first | exact hn | (unfold I64; decide)
    have HI := Lib.hid hI
    clear HN hc3 hg3 hI hn
    go_wp2_with fail
    refine HP.out.mono ?_
    rintro e w4 ⟨x9, hx9, rfl, hc4, hg4⟩
    have hw9 : (Lit.int .i64 x9).wf = true := (HI.out x9 hx9).wf
    have Hw9 := Lib.hid hw9
    have Hz4 := Lib.hid (kept_block hg4 Hcw.out ((Below.heap_alloc w3 _ w.heap.size (heap_lt Hz3.out)).trans Hz3.out))
    have Hc4 := Lib.hid hc4
    have Hg4 := Lib.hid (grown_trans Hg3.out (grown_trans (grown_alloc _ _ _) hg4))
    have HT := Lib.hid (spec_int x9 w4 hw9)
    clear HP HI hc4 hg4 hx9 hw9
    go_wp2_with fail
    refine HT.out.mono ?_
    clear HT
    rintro e w5 ⟨⟨f5, us, F5, rfl, ho5, hn5⟩, hb5⟩
    obtain ⟨x0, x1, x2, x3, x4, x5, rfl⟩ := six_of (ho5.1.trans (row_length _))
    have hone := ho5.one
    have hz9 := heap_kept hb5 (heap_lt Hz4.out) Hz4.out
    have Hz9 := Lib.hid hz9
    have Hc5 := Lib.hid (Hc4.out.below hb5 Hc4.out.lt)
    have Hg5 := Lib.hid (grown_below Hg4.out (hb5.mono Hg4.out.size))
    have Ho5 := Lib.hid (ho5.lower (B' := w.heap.size + 1) (heap_lt Hz4.out))
    clear ho5 hb5
    go_wp2_with (first | (refine wpList_store_row rfl 28 _ _ rfl w.heap.size #[x0, x1, x2, x3, x4, x5] rfl rfl 28 _ hz9 tree_size' rfl hone ?_) | fail)
    refine bodyPost_ret (v := .agg #[x0, x1, x2, x3, x4, x5]) ?_ rfl (got_set Hg5.out Hc5.out Hcw.out (Good.leaf (fit_leaf (by decide) (by decide) (by simp) (by simp) (by simp [ByteArray.size])) empty_word (wf_int Hw9.out)) Ho5.out hn5)
    exact ret_tree rfl rfl rfl (setRow_at Hz9.out)
  · clear hx
    have HN := Lib.hid (num_any c A len cap z w2 Hc2.out)
    go_wp2_with fail
    refine HN.out.mono ?_
    rintro e w3 ⟨n, hn, rfl, hc3, hg3⟩
    have Hz3 := Lib.hid (kept_block hg3 Hcw.out Hz2.out)
    have Hg3 := Lib.hid (grown_trans Hg2.out hg3)
    have HP := Lib.hid (pick_any c A len cap z w3.heap.size 7 7 [0, 1, -1, 42, 9223372036854775807, -9223372036854775808, n] _ (cur_alloc hc3 (.cells (icells [0, 1, -1, 42, 9223372036854775807, -9223372036854775808, n]).toArray 3)) (by decide) (by decide) rfl hc3.lt (heap_alloc_new w3 _))
    have hI : ∀ x ∈ [0, 1, -1, 42, 9223372036854775807, -9223372036854775808, n], I64 x := by
      intro x hx
      simp only [List.mem_cons, List.not_mem_nil, or_false] at hx
      rcases hx with rfl | rfl | rfl | rfl | rfl | rfl | rfl
      all_goals first | exact hn | (unfold I64; decide)
    have HI := Lib.hid hI
    clear HN hc3 hg3 hI hn
    go_wp2_with fail
    refine HP.out.mono ?_
    rintro e w4 ⟨x9, hx9, rfl, hc4, hg4⟩
    have hw9 : (Lit.int .i64 x9).wf = true := (HI.out x9 hx9).wf
    have Hw9 := Lib.hid hw9
    have Hz4 := Lib.hid (kept_block hg4 Hcw.out ((Below.heap_alloc w3 _ w.heap.size (heap_lt Hz3.out)).trans Hz3.out))
    have Hc4 := Lib.hid hc4
    have Hg4 := Lib.hid (grown_trans Hg3.out (grown_trans (grown_alloc _ _ _) hg4))
    have HT := Lib.hid (spec_int x9 w4 hw9)
    clear HP HI hc4 hg4 hx9 hw9
    go_wp2_with fail
    refine HT.out.mono ?_
    clear HT
    rintro e w5 ⟨⟨f5, us, F5, rfl, ho5, hn5⟩, hb5⟩
    obtain ⟨x0, x1, x2, x3, x4, x5, rfl⟩ := six_of (ho5.1.trans (row_length _))
    have hone := ho5.one
    have hz9 := heap_kept hb5 (heap_lt Hz4.out) Hz4.out
    have Hz9 := Lib.hid hz9
    have Hc5 := Lib.hid (Hc4.out.below hb5 Hc4.out.lt)
    have Hg5 := Lib.hid (grown_below Hg4.out (hb5.mono Hg4.out.size))
    have Ho5 := Lib.hid (ho5.lower (B' := w.heap.size + 1) (heap_lt Hz4.out))
    clear ho5 hb5
    go_wp2_with (first | (refine wpList_store_row rfl 28 _ _ rfl w.heap.size #[x0, x1, x2, x3, x4, x5] rfl rfl 28 _ hz9 tree_size' rfl hone ?_) | fail)
    refine bodyPost_ret (v := .agg #[x0, x1, x2, x3, x4, x5]) ?_ rfl (got_set Hg5.out Hc5.out Hcw.out (Good.leaf (fit_leaf (by decide) (by decide) (by simp) (by simp) (by simp [ByteArray.size])) empty_word (wf_int Hw9.out)) Ho5.out hn5)
    exact ret_tree rfl rfl rfl (setRow_at Hz9.out)
  · clear hx
    have HW := Lib.hid (word_any c A len cap z w2 Hc2.out)
    go_wp2_with fail
    refine HW.out.mono ?_
    rintro e w4 ⟨s9, hs9, rfl, hc4, hg4⟩
    have Hz4 := Lib.hid (kept_block hg4 Hcw.out Hz2.out)
    have Hc4 := Lib.hid hc4
    have Hg4 := Lib.hid (grown_trans Hg2.out hg4)
    have HT := Lib.hid (spec_text s9 w4 (Nat.le_trans hs9.1 (by unfold maxLen; omega)))
    have Hs9 := Lib.hid (show WordOk s9 from hs9)
    clear HW hc4 hg4 hs9
    go_wp2_with fail
    refine HT.out.mono ?_
    clear HT
    rintro e w5 ⟨⟨f5, us, F5, rfl, ho5, hn5⟩, hb5⟩
    obtain ⟨x0, x1, x2, x3, x4, x5, rfl⟩ := six_of (ho5.1.trans (row_length _))
    have hone := ho5.one
    have hz9 := heap_kept hb5 (heap_lt Hz4.out) Hz4.out
    have Hz9 := Lib.hid hz9
    have Hc5 := Lib.hid (Hc4.out.below hb5 Hc4.out.lt)
    have Hg5 := Lib.hid (grown_below Hg4.out (hb5.mono Hg4.out.size))
    have Ho5 := Lib.hid (ho5.lower (B' := w.heap.size + 1) (heap_lt Hz4.out))
    clear ho5 hb5
    go_wp2_with (first | (refine wpList_store_row rfl 28 _ _ rfl w.heap.size #[x0, x1, x2, x3, x4, x5] rfl rfl 28 _ hz9 tree_size' rfl hone ?_) | fail)
    refine bodyPost_ret (v := .agg #[x0, x1, x2, x3, x4, x5]) ?_ rfl (got_set Hg5.out Hc5.out Hcw.out (Good.leaf (fit_leaf (by decide) (by decide) (by simp) (by simp) (by simp)) Hs9.out (by decide)) Ho5.out hn5)
    exact ret_tree rfl rfl rfl (setRow_at Hz9.out)
  · clear hx
    have HW := Lib.hid (word_any c A len cap z w2 Hc2.out)
    go_wp2_with fail
    refine HW.out.mono ?_
    rintro e w4 ⟨s9, hs9, rfl, hc4, hg4⟩
    have Hz4 := Lib.hid (kept_block hg4 Hcw.out Hz2.out)
    have Hc4 := Lib.hid hc4
    have Hg4 := Lib.hid (grown_trans Hg2.out hg4)
    have HT := Lib.hid (spec_text s9 w4 (Nat.le_trans hs9.1 (by unfold maxLen; omega)))
    have Hs9 := Lib.hid (show WordOk s9 from hs9)
    clear HW hc4 hg4 hs9
    go_wp2_with fail
    refine HT.out.mono ?_
    clear HT
    rintro e w5 ⟨⟨f5, us, F5, rfl, ho5, hn5⟩, hb5⟩
    obtain ⟨x0, x1, x2, x3, x4, x5, rfl⟩ := six_of (ho5.1.trans (row_length _))
    have hone := ho5.one
    have hz9 := heap_kept hb5 (heap_lt Hz4.out) Hz4.out
    have Hz9 := Lib.hid hz9
    have Hc5 := Lib.hid (Hc4.out.below hb5 Hc4.out.lt)
    have Hg5 := Lib.hid (grown_below Hg4.out (hb5.mono Hg4.out.size))
    have Ho5 := Lib.hid (ho5.lower (B' := w.heap.size + 1) (heap_lt Hz4.out))
    clear ho5 hb5
    go_wp2_with (first | (refine wpList_store_row rfl 28 _ _ rfl w.heap.size #[x0, x1, x2, x3, x4, x5] rfl rfl 28 _ hz9 tree_size' rfl hone ?_) | fail)
    refine bodyPost_ret (v := .agg #[x0, x1, x2, x3, x4, x5]) ?_ rfl (got_set Hg5.out Hc5.out Hcw.out (Good.leaf (fit_leaf (by decide) (by decide) (by simp) (by simp) (by simp)) Hs9.out (by decide)) Ho5.out hn5)
    exact ret_tree rfl rfl rfl (setRow_at Hz9.out)
  · clear hx
    obtain ⟨w3, hw3⟩ : ∃ w3, w3 = w2.alloc (.cells #[] 28) := ⟨_, rfl⟩
    have Hst := Lib.hid (show ListSt d c A len cap z w 0 (.slice (some ⟨w2.heap.size, 0, none⟩) 0 0) w3 from ⟨[], 0, rfl, by simp, by
        subst hw3
        exact OwnRow.of_lit (World.ownsRow_lit (size := 6) (base := w.heap.size + 1) (e := 28) w2 #[] 0 (heap_lt Hz2.out) (by simp [maxLen]) rfl), by subst hw3; exact cur_alloc Hc2.out _, by subst hw3; exact grown_trans Hg2.out (grown_alloc _ _ _), by subst hw3; rw [Below.heap_alloc _ _ _ (heap_lt Hz2.out)]; exact Hz2.out⟩)
    have Hw3 := Lib.hid hw3
    clear hw3
    go_wp2_with fail
    rw [← Hw3.out]
    go_loopg [6, 7] 3 (fun gk s6 s7 wr => ∃ (j : Nat), j ≤ 3 ∧ gk = 3 - j ∧ s7 = .int .i64 j ∧ Hid (ListSt d c A len cap z w j s6 wr))
    case atStart => exact ⟨0, by omega, rfl, rfl, Hst⟩
    case round =>
      clear Hst Hw3 Hz2 Hc2 Hg2
      obtain ⟨j, hj, rfl, rfl, hst⟩ := hrel
      have hcr : Cur wr c A len cap z := by obtain ⟨_, _, _, _, _, h, _⟩ := hst.out; exact h
      have HB := Lib.hid (below_any c A len cap z 4 wr hcr (by decide) (by decide))
      clear hcr
      go_wp2_with fail
      refine HB.out.mono ?_
      rintro e w4 ⟨x, hx, rfl, hc4, hg4⟩
      have Hst4 := Lib.hid (hst.out.drew Hcw.out hc4 hg4)
      have HT := Lib.hid (HIH.out c A len cap z w4 hc4)
      clear HB hst hc4 hg4
      by_cases hlt : (j : Int) < x
      · have hj3 : j + 1 ≤ 3 := by omega
        go_wp2_with fail
        refine HT.out.mono ?_
        rintro e w5 ⟨t, us, f5, G, good, rfl, ho5, hn5, hc5, hg5⟩
        obtain ⟨x0, x1, x2, x3, x4, x5, rfl⟩ := six_of (ho5.1.trans (row_length _))
        have hst4 := Hst4.out
        obtain ⟨kids, f4, k1, k2, ⟨xs, F, r1, r2, r3, r4, r5⟩, k4, k5, k6⟩ := hst4
        have hk5 : ∀ g, w.heap.size ≤ g → g < w4.heap.size → w5.heap[g]? = w4.heap[g]? := fun g h1 h2 => hg5.block g h2 (fun e => by injection e with e; have := Hcw.out; omega)
        obtain ⟨B1, b1, rfl⟩ := own_is_slice r1
        have hvb := r1.lt
        have hown5 : w5.ownsRow (w.heap.size + 1) 28 6 (.slice B1 j b1) j xs := r1.kept hg5 (by
          cases hv : (Value.slice B1 j b1).ownBlock with
          | none => exact .inl rfl
          | some y => exact .inr (fun e => by injection e with e; have := (hvb y hv).1; have := Hcw.out; omega))
        have Hsn := Lib.hid (show ∃ kids f F, kids.length = j ∧ (∀ x ∈ kids, Good d x) ∧ (rows kids).length = j * 6 ∧ OwnS w5 (w.heap.size + 1) f xs (rows kids) F ∧ F.Nodup ∧ (∀ x ∈ F, (Value.slice B1 j b1).ownBlock ≠ some x) ∧ (∀ x ∈ F, x < w4.heap.size) from
          ⟨kids, f4, F, k1, k2, by rw [rows_length, k1], OwnS.kept (fun y hy => hk5 y (by have := (r3.range y hy).1; omega) (r3.range y hy).2) r3, r4, r5, fun y hy => (r3.range y hy).2⟩)
        have Hvb := Lib.hid hvb
        have hz5 := kept_block hg5 Hcw.out k6
        have Hz5 := Lib.hid hz5
        have Hc5 := Lib.hid hc5
        have Hg5 := Lib.hid (grown_trans k5 hg5)
        have Ho5 := Lib.hid ho5
        have Hown5 := Lib.hid (own_below' hown5 (show Below w5.heap.size w5 (w5.alloc (.cells #[x0, x1, x2, x3, x4, x5] 28)) from (Below.refl _ _).alloc (Nat.le_refl _) _))
        have hone5 := ho5.ones
        have Hlow := Lib.hid (show w.heap.size + 1 ≤ w4.heap.size from heap_lt k6)
        have hlow5 : w.heap.size + 1 ≤ (w5.alloc (.cells #[x0, x1, x2, x3, x4, x5] 28)).heap.size := by have := heap_lt hz5; simp; omega
        clear ho5 hc5 hg5 k1 k2 r1 r2 r3 r4 r5 k4 k5 k6 hk5 hvb hown5 hz5 HT Hst4
        go_wp2_with (first | (at_builtin; refine wpList_append_at rfl (.tmp 53) (.tmp 58) 26 rfl (w.heap.size + 1) 28 i1 _ 6 88 Tryz.underlying26 hi' hy0 hy1 hy2 rfl (by decide) _ j xs rfl Hown5.out ⟨w5.heap.size, 0, none⟩ 1 1 [x0, x1, x2, x3, x4, x5] rfl rfl (by exact lit_cells _ _ _) hone5 (by unfold maxLen; omega) (by omega) hlow5 ?_) | fail)
        intro v7 w7 hown7 hg7 hat7
        have Hnext := Lib.hid (ListSt.snoc (f2 := f5) (B2 := w4.heap.size) Hcw.out Hsn.out (fun k hk => (Hvb.out k hk).2) Hlow.out Hc5.out Hg5.out Hz5.out good Ho5.out hn5 (show Below w5.heap.size w5 (w5.alloc (.cells #[x0, x1, x2, x3, x4, x5] 28)) from (Below.refl _ _).alloc (Nat.le_refl _) _) hown7 (fun k hk => (Hvb.out k hk).1) hg7 (hat7.imp id (fun e => e.trans (by simp))))
        clear hown7 hg7 hat7
        go_wp2_with fail
        go_roundg (3 - (j + 1))
        case measure => omega
        case rel => exact ⟨j + 1, hj3, rfl, by go_num, Hnext⟩
      · obtain ⟨kids, f4, rfl, k2, k3, k4, k5, k6⟩ := Hst4.out
        obtain ⟨xs, F, r1, r⟩ := k3
        obtain ⟨B1, b1, rfl⟩ := own_is_slice r1
        obtain ⟨F4, o4, n4, _⟩ := OwnRow.own ⟨xs, F, r1, r⟩
        have hw4 : kids.length + weights kids ≤ 1048576 := by
          have h1 := weights_le (c := 9736) (fun x hx => (k2 x hx).light (by omega))
          have : kids.length * 9736 ≤ 3 * 9736 := Nat.mul_le_mul_right _ hj
          omega
        have HL := Lib.hid (spec_list kids B1 b1 w4 o4.lies hw4)
        have Hz4 := Lib.hid k6
        have Hc4 := Lib.hid k4
        have Hg4 := Lib.hid k5
        have Hgood := Lib.hid (Good.list (d := d) (kids := kids) (by omega) k2)
        clear k2 k4 k5 k6 r1 r o4 n4 HT Hst4 hw4
        go_wp2_with fail
        refine HL.out.mono ?_
        clear HL
        rintro e w5 ⟨⟨us, F5, rfl, ho5, hn5⟩, hb5⟩
        obtain ⟨x0, x1, x2, x3, x4, x5, rfl⟩ := six_of (ho5.1.trans (row_length _))
        have hone := ho5.one
        have hz9 := heap_kept hb5 (heap_lt Hz4.out) Hz4.out
        have Hz9 := Lib.hid hz9
        have Hc5 := Lib.hid (Hc4.out.below hb5 Hc4.out.lt)
        have Hg5 := Lib.hid (grown_below Hg4.out (hb5.mono Hg4.out.size))
        have Ho5 := Lib.hid (ho5.lower (B' := w.heap.size + 1) (heap_lt Hz4.out))
        clear ho5 hb5
        go_wp2_with (first | (refine wpList_store_row rfl 28 _ _ rfl w.heap.size #[x0, x1, x2, x3, x4, x5] rfl rfl 28 _ hz9 tree_size' rfl hone ?_) | fail)
        refine bodyPost_ret (v := .agg #[x0, x1, x2, x3, x4, x5]) ?_ rfl (got_set Hg5.out Hc5.out Hcw.out Hgood.out Ho5.out hn5)
        exact ret_tree rfl rfl rfl (setRow_at Hz9.out)
  · obtain rfl | rfl : x = 7 ∨ x = 8 := by omega
    all_goals
      clear hx h7
      obtain ⟨w3, hw3⟩ : ∃ w3, w3 = w2.alloc (.cells #[.int .i64 6, .bool false, .int .i64 0, .string ⟨#[]⟩, .slice none 0 0, .slice none 0 0] 28) := ⟨_, rfl⟩
      have Hst := Lib.hid (show MapSt d c A len cap z w w2.heap.size 0 w3 from ⟨_, [.int .i64 6, .bool false, .int .i64 0, .string ⟨#[]⟩, .slice none 0 0, .slice none 0 0], 1, [], MapGood.start d, by subst hw3; exact heap_alloc_new w2 _, own_leaf 0 (wf_small (by decide) (by decide)) (wf_small (by decide) (by decide)) (by decide), List.nodup_nil, by subst hw3; exact cur_alloc Hc2.out _, by subst hw3; exact grown_trans Hg2.out (grown_alloc _ _ _), by subst hw3; rw [Below.heap_alloc _ _ _ (heap_lt Hz2.out)]; exact Hz2.out, heap_lt Hz2.out⟩)
      have Hw3 := Lib.hid hw3
      clear hw3
      go_wp2_with fail
      rw [← Hw3.out]
      go_loopg [9] 4 (fun gk s9 wr => ∃ (j : Nat), j ≤ 4 ∧ gk = 4 - j ∧ s9 = .int .i64 j ∧ Hid (MapSt d c A len cap z w w2.heap.size j wr))
      case atStart => exact ⟨0, by omega, rfl, rfl, Hst⟩
      case round =>
        clear Hst Hw3 Hz2 Hc2 Hg2
        obtain ⟨j, hj, rfl, rfl, hst⟩ := hrel
        have hcr : Cur wr c A len cap z := by obtain ⟨_, _, _, _, _, _, _, _, h, _⟩ := hst.out; exact h
        have HB := Lib.hid (below_any c A len cap z 5 wr hcr (by decide) (by decide))
        clear hcr
        go_wp2_with fail
        refine HB.out.mono ?_
        rintro e w4 ⟨x, hx, rfl, hc4, hg4⟩
        obtain ⟨t, us, f4, F, mg, hm4, ho4, hn4, hst4c, hg4', hz4, hlo4⟩ := hst.out.drew Hcw.out hc4 hg4
        obtain ⟨y0, y1, y2, y3, y4, y5, rfl⟩ := six_of (ho4.1.trans (row_length _))
        clear HB hst hc4 hg4
        have hcm : c < w2.heap.size := by have := Hcw.out; omega
        by_cases hlt : (j : Int) < x
        · have hj4 : j + 1 ≤ 4 := by omega
          obtain ⟨p0, p1, p2, p3, p4, p5⟩ := Row6.of hm4
          have Hm4 := Lib.hid (show w4.drew.heap[w2.heap.size]? = _ from hm4)
          have HWd := Lib.hid (fun w' (h : Cur w' c A len cap z) => word_any c A len cap z w' h)
          have hwr : IntKind.i64.wrap (deep - 1) = deep - 1 := by rw [IntKind.wrap_i64]; omega
          have HTd := Lib.hid (show ∀ w', Cur w' c A len cap z → Calls Tryz.prog 13 #[.pointer (some ⟨c, 0, none⟩), .int .i64 (IntKind.i64.wrap (deep - 1))] w' (GotT d c A len cap z w') from fun w' h => by rw [hwr]; exact HIH.out c A len cap z w' h)
          clear hwr
          have Hc4 := Lib.hid (show Cur w4.drew c A len cap z from hst4c)
          have Ho4 := Lib.hid (ho4.below (Below.refl _ _).drew)
          have Hg4 := Lib.hid (grown_below hg4' (Below.refl _ _).drew)
          have Hz4 := Lib.hid (show w4.drew.heap[w.heap.size]? = _ from hz4)
          have Hmg := Lib.hid mg
          have hmlt := heap_lt hm4
          have hmlt4 : w2.heap.size < w4.drew.heap.size := hmlt
          clear hm4 hst4c ho4 hg4' hz4 hmlt p0 p1 p2 p3 p4 p5
          go_upto_region 26 with fail
          refine wp_region_any (by kernel_rfl) ?_
          change wpAny _ _ _ _ _ _ _ (World.drew w4)
          generalize w4.drew = wd at Hm4 Hc4 Ho4 Hg4 Hz4 hmlt4 ⊢
          obtain ⟨p0, p1, p2, p3, p4, p5⟩ := Row6.of Hm4.out
          refine wpAny_take (i := 1) (v := ?_) rfl (by kernel_rfl) (by kernel_rfl) (by kernel_rfl) (fun _ _ _ h => h) (Or.inl ⟨by rfl, ?_⟩) ?_
          rotate_left
          · intro w'
            go_simp
            try with_reducible rfl
          try simp only [Act.put, List.setIfInBounds_toArray, List.set_cons_zero, List.set_cons_succ, List.getElem_toArray, List.getElem_cons_zero, List.getElem_cons_succ]
          refine wpAny_take (i := 3) (v := ?_) rfl (by kernel_rfl) (by kernel_rfl) (by kernel_rfl) (fun _ _ _ h => h) (Or.inl ⟨by rfl, ?_⟩) ?_
          rotate_left
          · intro w'
            go_simp
            try with_reducible rfl
          try simp only [Act.put, List.setIfInBounds_toArray, List.set_cons_zero, List.set_cons_succ, List.getElem_toArray, List.getElem_cons_zero, List.getElem_cons_succ]
          refine wpAny_take (i := 4) (v := ?_) rfl (by kernel_rfl) (by kernel_rfl) (by kernel_rfl) (fun _ _ _ h => h) (Or.inl ⟨by rfl, ?_⟩) ?_
          rotate_left
          · intro w'
            go_simp
            try with_reducible rfl
          try simp only [Act.put, List.setIfInBounds_toArray, List.set_cons_zero, List.set_cons_succ, List.getElem_toArray, List.getElem_cons_zero, List.getElem_cons_succ]
          refine wpAny_take (i := 5) (v := ?_) rfl (by kernel_rfl) (by kernel_rfl) (by kernel_rfl) (fun _ _ _ h => h) (Or.inl ⟨by rfl, ?_⟩) ?_
          rotate_left
          · intro w'
            go_simp
            try with_reducible rfl
          try simp only [Act.put, List.setIfInBounds_toArray, List.set_cons_zero, List.set_cons_succ, List.getElem_toArray, List.getElem_cons_zero, List.getElem_cons_succ]
          refine wpAny_ready (rs := [0, 2]) (by kernel_rfl) (by simp) ?_
          refine AllReady.cons rfl (fun K hK => ?_) ?_
          · go_simp
            (refine hK _ _ ?_; clear hK K)
            try simp only [Act.put, List.setIfInBounds_toArray, List.set_cons_zero, List.set_cons_succ, List.getElem_toArray, List.getElem_cons_zero, List.getElem_cons_succ]
            refine wpAny_ready (rs := [2]) (by kernel_rfl) (by simp) ?_
            refine AllReady.cons rfl (fun K hK => ?_) ?_
            · go_simp
              go_at_call 34
              refine (HWd.out _ Hc4.out).mono ?_
              rintro e w5 ⟨key, hkey, rfl, hc5, hg5⟩
              have Hc5 := Lib.hid hc5
              have Hg5 := Lib.hid hg5
              have Hkey := Lib.hid hkey
              have Hm5 := Lib.hid (kept_block hg5 hcm Hm4.out)
              clear hc5 hg5 hkey
              obtain ⟨p0, p1, p2, p3, p4, p5⟩ := Row6.of Hm5.out
              (refine hK _ _ ?_; clear hK K)
              try simp only [Act.put, List.setIfInBounds_toArray, List.set_cons_zero, List.set_cons_succ, List.getElem_toArray, List.getElem_cons_zero, List.getElem_cons_succ]
              refine wpAny_ready (rs := [6]) (by kernel_rfl) (by simp) ?_
              refine AllReady.cons rfl (fun K hK => ?_) ?_
              · go_simp
                go_at_call 13
                refine (HTd.out _ Hc5.out).mono ?_
                rintro e w6 ⟨kid, kv, f6, F6, good, rfl, ho6, hn6, hc6, hg6⟩
                obtain ⟨k0, k1, k2, k3, k4, k5, rfl⟩ := six_of (ho6.1.trans (row_length _))
                have Hc6 := Lib.hid hc6
                have Hg6 := Lib.hid hg6
                have Ho6 := Lib.hid ho6
                have Hgood := Lib.hid good
                have Hm6 := Lib.hid (kept_block hg6 hcm Hm5.out)
                clear hc6 hg6 ho6 good
                obtain ⟨p0, p1, p2, p3, p4, p5⟩ := Row6.of Hm6.out
                (refine hK _ _ ?_; clear hK K)
                try simp only [Act.put, List.setIfInBounds_toArray, List.set_cons_zero, List.set_cons_succ, List.getElem_toArray, List.getElem_cons_zero, List.getElem_cons_succ]
                refine wpAny_ready (rs := [7]) (by kernel_rfl) (by simp) ?_
                refine AllReady.cons rfl (fun K hK => ?_) ?_
                · go_simp
                  go_at_call 36
                  refine (spec_put (f := max f4 f6) t key kid [y0, y1, y2, y3, y4, y5] [k0, k1, k2, k3, k4, k5] w6 (((owns_drew (owns_drew Ho4.out Hg5.out (by omega)) Hg6.out (by omega)).lies).deeper (Nat.le_max_left _ _)) ((Ho6.out.lies).deeper (Nat.le_max_right _ _)) (Nat.le_trans Hkey.out.1 (show 28 ≤ maxLen by decide)) (Nat.le_trans ((Hmg.out.good hj).light (by omega)) (by omega)) (Nat.le_trans (Hgood.out.light (by omega)) (by omega))).mono ?_
                  rintro e w8 ⟨⟨us8, F8, rfl, ho8, hn8⟩, hb8⟩
                  obtain ⟨x0, x1, x2, x3, x4, x5, rfl⟩ := six_of (ho8.1.trans (row_length _))
                  have Hm8 := Lib.hid (heap_kept hb8 (heap_lt Hm6.out) Hm6.out)
                  have Ho8 := Lib.hid ho8
                  have Hb8 := Lib.hid hb8
                  have hone8 := ho8.one
                  clear ho8 hb8
                  (refine hK _ _ ?_; clear hK K)
                  try simp only [Act.put, List.setIfInBounds_toArray, List.set_cons_zero, List.set_cons_succ, List.getElem_toArray, List.getElem_cons_zero, List.getElem_cons_succ]
                  refine wpAny_take (i := 8) (v := ?_) rfl (by kernel_rfl) (by kernel_rfl) (by kernel_rfl) (fun _ _ _ h => h) (Or.inl ⟨by rfl, ?_⟩) ?_
                  rotate_left
                  · intro w'
                    go_simp
                    try with_reducible rfl
                  try simp only [Act.put, List.setIfInBounds_toArray, List.set_cons_zero, List.set_cons_succ, List.getElem_toArray, List.getElem_cons_zero, List.getElem_cons_succ]
                  refine wpAny_take (i := 9) (v := ?_) rfl (by kernel_rfl) (by kernel_rfl) (by kernel_rfl) (fun _ _ _ h => h) (Or.inl ⟨by rfl, ?_⟩) ?_
                  rotate_left
                  · intro w'
                    go_simp
                    try with_reducible rfl
                  try simp only [Act.put, List.setIfInBounds_toArray, List.set_cons_zero, List.set_cons_succ, List.getElem_toArray, List.getElem_cons_zero, List.getElem_cons_succ]
                  refine wpAny_take (i := 10) (v := ?_) rfl (by kernel_rfl) (by kernel_rfl) (by kernel_rfl) (fun _ _ _ h => h) (Or.inl ⟨by rfl, ?_⟩) ?_
                  rotate_left
                  · intro w'
                    go_simp
                    try with_reducible rfl
                  try simp only [Act.put, List.setIfInBounds_toArray, List.set_cons_zero, List.set_cons_succ, List.getElem_toArray, List.getElem_cons_zero, List.getElem_cons_succ]
                  refine wpAny_ready (rs := [11]) (by kernel_rfl) (by simp) ?_
                  refine AllReady.cons rfl (fun K hK => ?_) ?_
                  · refine step_store_row rfl 28 _ _ rfl w2.heap.size #[x0, x1, x2, x3, x4, x5] rfl rfl 28 _ Hm8.out tree_size' rfl hone8 ?_
                    (refine hK _ _ ?_; clear hK K)
                    try simp only [Act.put, List.getElem_toArray, List.getElem_cons_zero, List.getElem_cons_succ]
                    refine wpAny_done (by kernel_rfl) ?_ _
                    have Hnext := Lib.hid (MapSt.put Hcw.out hlo4 Hmg.out Hkey.out Hgood.out Hm8.out (Ho8.out.lower (heap_lt Hm6.out)) hn8 (Hc6.out.below Hb8.out Hc6.out.lt) (grown_below (grown_trans (grown_trans Hg4.out Hg5.out) Hg6.out) (Hb8.out.mono (Nat.le_trans Hg4.out.size (Nat.le_trans Hg5.out.size Hg6.out.size)))) (heap_kept Hb8.out (heap_lt (kept_block Hg6.out Hcw.out (kept_block Hg5.out Hcw.out Hz4.out))) (kept_block Hg6.out Hcw.out (kept_block Hg5.out Hcw.out Hz4.out))))
                    go_wp2_with fail
                    go_roundg (4 - (j + 1))
                    case measure => omega
                    case rel => exact ⟨j + 1, hj4, rfl, by go_num, Hnext⟩
                  exact AllReady.nil
                exact AllReady.nil
              exact AllReady.nil
            exact AllReady.nil
          refine AllReady.cons rfl (fun K hK => ?_) ?_
          · go_simp
            go_at_call 34
            refine (HWd.out _ Hc4.out).mono ?_
            rintro e w5 ⟨key, hkey, rfl, hc5, hg5⟩
            have Hc5 := Lib.hid hc5
            have Hg5 := Lib.hid hg5
            have Hkey := Lib.hid hkey
            have Hm5 := Lib.hid (kept_block hg5 hcm Hm4.out)
            clear hc5 hg5 hkey
            obtain ⟨p0, p1, p2, p3, p4, p5⟩ := Row6.of Hm5.out
            (refine hK _ _ ?_; clear hK K)
            try simp only [Act.put, List.setIfInBounds_toArray, List.set_cons_zero, List.set_cons_succ, List.getElem_toArray, List.getElem_cons_zero, List.getElem_cons_succ]
            refine wpAny_ready (rs := [0, 6]) (by kernel_rfl) (by simp) ?_
            refine AllReady.cons rfl (fun K hK => ?_) ?_
            · go_simp
              (refine hK _ _ ?_; clear hK K)
              try simp only [Act.put, List.setIfInBounds_toArray, List.set_cons_zero, List.set_cons_succ, List.getElem_toArray, List.getElem_cons_zero, List.getElem_cons_succ]
              refine wpAny_ready (rs := [6]) (by kernel_rfl) (by simp) ?_
              refine AllReady.cons rfl (fun K hK => ?_) ?_
              · go_simp
                go_at_call 13
                refine (HTd.out _ Hc5.out).mono ?_
                rintro e w6 ⟨kid, kv, f6, F6, good, rfl, ho6, hn6, hc6, hg6⟩
                obtain ⟨k0, k1, k2, k3, k4, k5, rfl⟩ := six_of (ho6.1.trans (row_length _))
                have Hc6 := Lib.hid hc6
                have Hg6 := Lib.hid hg6
                have Ho6 := Lib.hid ho6
                have Hgood := Lib.hid good
                have Hm6 := Lib.hid (kept_block hg6 hcm Hm5.out)
                clear hc6 hg6 ho6 good
                obtain ⟨p0, p1, p2, p3, p4, p5⟩ := Row6.of Hm6.out
                (refine hK _ _ ?_; clear hK K)
                try simp only [Act.put, List.setIfInBounds_toArray, List.set_cons_zero, List.set_cons_succ, List.getElem_toArray, List.getElem_cons_zero, List.getElem_cons_succ]
                refine wpAny_ready (rs := [7]) (by kernel_rfl) (by simp) ?_
                refine AllReady.cons rfl (fun K hK => ?_) ?_
                · go_simp
                  go_at_call 36
                  refine (spec_put (f := max f4 f6) t key kid [y0, y1, y2, y3, y4, y5] [k0, k1, k2, k3, k4, k5] w6 (((owns_drew (owns_drew Ho4.out Hg5.out (by omega)) Hg6.out (by omega)).lies).deeper (Nat.le_max_left _ _)) ((Ho6.out.lies).deeper (Nat.le_max_right _ _)) (Nat.le_trans Hkey.out.1 (show 28 ≤ maxLen by decide)) (Nat.le_trans ((Hmg.out.good hj).light (by omega)) (by omega)) (Nat.le_trans (Hgood.out.light (by omega)) (by omega))).mono ?_
                  rintro e w8 ⟨⟨us8, F8, rfl, ho8, hn8⟩, hb8⟩
                  obtain ⟨x0, x1, x2, x3, x4, x5, rfl⟩ := six_of (ho8.1.trans (row_length _))
                  have Hm8 := Lib.hid (heap_kept hb8 (heap_lt Hm6.out) Hm6.out)
                  have Ho8 := Lib.hid ho8
                  have Hb8 := Lib.hid hb8
                  have hone8 := ho8.one
                  clear ho8 hb8
                  (refine hK _ _ ?_; clear hK K)
                  try simp only [Act.put, List.setIfInBounds_toArray, List.set_cons_zero, List.set_cons_succ, List.getElem_toArray, List.getElem_cons_zero, List.getElem_cons_succ]
                  refine wpAny_take (i := 8) (v := ?_) rfl (by kernel_rfl) (by kernel_rfl) (by kernel_rfl) (fun _ _ _ h => h) (Or.inl ⟨by rfl, ?_⟩) ?_
                  rotate_left
                  · intro w'
                    go_simp
                    try with_reducible rfl
                  try simp only [Act.put, List.setIfInBounds_toArray, List.set_cons_zero, List.set_cons_succ, List.getElem_toArray, List.getElem_cons_zero, List.getElem_cons_succ]
                  refine wpAny_take (i := 9) (v := ?_) rfl (by kernel_rfl) (by kernel_rfl) (by kernel_rfl) (fun _ _ _ h => h) (Or.inl ⟨by rfl, ?_⟩) ?_
                  rotate_left
                  · intro w'
                    go_simp
                    try with_reducible rfl
                  try simp only [Act.put, List.setIfInBounds_toArray, List.set_cons_zero, List.set_cons_succ, List.getElem_toArray, List.getElem_cons_zero, List.getElem_cons_succ]
                  refine wpAny_take (i := 10) (v := ?_) rfl (by kernel_rfl) (by kernel_rfl) (by kernel_rfl) (fun _ _ _ h => h) (Or.inl ⟨by rfl, ?_⟩) ?_
                  rotate_left
                  · intro w'
                    go_simp
                    try with_reducible rfl
                  try simp only [Act.put, List.setIfInBounds_toArray, List.set_cons_zero, List.set_cons_succ, List.getElem_toArray, List.getElem_cons_zero, List.getElem_cons_succ]
                  refine wpAny_ready (rs := [11]) (by kernel_rfl) (by simp) ?_
                  refine AllReady.cons rfl (fun K hK => ?_) ?_
                  · refine step_store_row rfl 28 _ _ rfl w2.heap.size #[x0, x1, x2, x3, x4, x5] rfl rfl 28 _ Hm8.out tree_size' rfl hone8 ?_
                    (refine hK _ _ ?_; clear hK K)
                    try simp only [Act.put, List.getElem_toArray, List.getElem_cons_zero, List.getElem_cons_succ]
                    refine wpAny_done (by kernel_rfl) ?_ _
                    have Hnext := Lib.hid (MapSt.put Hcw.out hlo4 Hmg.out Hkey.out Hgood.out Hm8.out (Ho8.out.lower (heap_lt Hm6.out)) hn8 (Hc6.out.below Hb8.out Hc6.out.lt) (grown_below (grown_trans (grown_trans Hg4.out Hg5.out) Hg6.out) (Hb8.out.mono (Nat.le_trans Hg4.out.size (Nat.le_trans Hg5.out.size Hg6.out.size)))) (heap_kept Hb8.out (heap_lt (kept_block Hg6.out Hcw.out (kept_block Hg5.out Hcw.out Hz4.out))) (kept_block Hg6.out Hcw.out (kept_block Hg5.out Hcw.out Hz4.out))))
                    go_wp2_with fail
                    go_roundg (4 - (j + 1))
                    case measure => omega
                    case rel => exact ⟨j + 1, hj4, rfl, by go_num, Hnext⟩
                  exact AllReady.nil
                exact AllReady.nil
              exact AllReady.nil
            refine AllReady.cons rfl (fun K hK => ?_) ?_
            · go_simp
              go_at_call 13
              refine (HTd.out _ Hc5.out).mono ?_
              rintro e w6 ⟨kid, kv, f6, F6, good, rfl, ho6, hn6, hc6, hg6⟩
              obtain ⟨k0, k1, k2, k3, k4, k5, rfl⟩ := six_of (ho6.1.trans (row_length _))
              have Hc6 := Lib.hid hc6
              have Hg6 := Lib.hid hg6
              have Ho6 := Lib.hid ho6
              have Hgood := Lib.hid good
              have Hm6 := Lib.hid (kept_block hg6 hcm Hm5.out)
              clear hc6 hg6 ho6 good
              obtain ⟨p0, p1, p2, p3, p4, p5⟩ := Row6.of Hm6.out
              (refine hK _ _ ?_; clear hK K)
              try simp only [Act.put, List.setIfInBounds_toArray, List.set_cons_zero, List.set_cons_succ, List.getElem_toArray, List.getElem_cons_zero, List.getElem_cons_succ]
              refine wpAny_ready (rs := [0]) (by kernel_rfl) (by simp) ?_
              refine AllReady.cons rfl (fun K hK => ?_) ?_
              · go_simp
                (refine hK _ _ ?_; clear hK K)
                try simp only [Act.put, List.setIfInBounds_toArray, List.set_cons_zero, List.set_cons_succ, List.getElem_toArray, List.getElem_cons_zero, List.getElem_cons_succ]
                refine wpAny_ready (rs := [7]) (by kernel_rfl) (by simp) ?_
                refine AllReady.cons rfl (fun K hK => ?_) ?_
                · go_simp
                  go_at_call 36
                  refine (spec_put (f := max f4 f6) t key kid [y0, y1, y2, y3, y4, y5] [k0, k1, k2, k3, k4, k5] w6 (((owns_drew (owns_drew Ho4.out Hg5.out (by omega)) Hg6.out (by omega)).lies).deeper (Nat.le_max_left _ _)) ((Ho6.out.lies).deeper (Nat.le_max_right _ _)) (Nat.le_trans Hkey.out.1 (show 28 ≤ maxLen by decide)) (Nat.le_trans ((Hmg.out.good hj).light (by omega)) (by omega)) (Nat.le_trans (Hgood.out.light (by omega)) (by omega))).mono ?_
                  rintro e w8 ⟨⟨us8, F8, rfl, ho8, hn8⟩, hb8⟩
                  obtain ⟨x0, x1, x2, x3, x4, x5, rfl⟩ := six_of (ho8.1.trans (row_length _))
                  have Hm8 := Lib.hid (heap_kept hb8 (heap_lt Hm6.out) Hm6.out)
                  have Ho8 := Lib.hid ho8
                  have Hb8 := Lib.hid hb8
                  have hone8 := ho8.one
                  clear ho8 hb8
                  (refine hK _ _ ?_; clear hK K)
                  try simp only [Act.put, List.setIfInBounds_toArray, List.set_cons_zero, List.set_cons_succ, List.getElem_toArray, List.getElem_cons_zero, List.getElem_cons_succ]
                  refine wpAny_take (i := 8) (v := ?_) rfl (by kernel_rfl) (by kernel_rfl) (by kernel_rfl) (fun _ _ _ h => h) (Or.inl ⟨by rfl, ?_⟩) ?_
                  rotate_left
                  · intro w'
                    go_simp
                    try with_reducible rfl
                  try simp only [Act.put, List.setIfInBounds_toArray, List.set_cons_zero, List.set_cons_succ, List.getElem_toArray, List.getElem_cons_zero, List.getElem_cons_succ]
                  refine wpAny_take (i := 9) (v := ?_) rfl (by kernel_rfl) (by kernel_rfl) (by kernel_rfl) (fun _ _ _ h => h) (Or.inl ⟨by rfl, ?_⟩) ?_
                  rotate_left
                  · intro w'
                    go_simp
                    try with_reducible rfl
                  try simp only [Act.put, List.setIfInBounds_toArray, List.set_cons_zero, List.set_cons_succ, List.getElem_toArray, List.getElem_cons_zero, List.getElem_cons_succ]
                  refine wpAny_take (i := 10) (v := ?_) rfl (by kernel_rfl) (by kernel_rfl) (by kernel_rfl) (fun _ _ _ h => h) (Or.inl ⟨by rfl, ?_⟩) ?_
                  rotate_left
                  · intro w'
                    go_simp
                    try with_reducible rfl
                  try simp only [Act.put, List.setIfInBounds_toArray, List.set_cons_zero, List.set_cons_succ, List.getElem_toArray, List.getElem_cons_zero, List.getElem_cons_succ]
                  refine wpAny_ready (rs := [11]) (by kernel_rfl) (by simp) ?_
                  refine AllReady.cons rfl (fun K hK => ?_) ?_
                  · refine step_store_row rfl 28 _ _ rfl w2.heap.size #[x0, x1, x2, x3, x4, x5] rfl rfl 28 _ Hm8.out tree_size' rfl hone8 ?_
                    (refine hK _ _ ?_; clear hK K)
                    try simp only [Act.put, List.getElem_toArray, List.getElem_cons_zero, List.getElem_cons_succ]
                    refine wpAny_done (by kernel_rfl) ?_ _
                    have Hnext := Lib.hid (MapSt.put Hcw.out hlo4 Hmg.out Hkey.out Hgood.out Hm8.out (Ho8.out.lower (heap_lt Hm6.out)) hn8 (Hc6.out.below Hb8.out Hc6.out.lt) (grown_below (grown_trans (grown_trans Hg4.out Hg5.out) Hg6.out) (Hb8.out.mono (Nat.le_trans Hg4.out.size (Nat.le_trans Hg5.out.size Hg6.out.size)))) (heap_kept Hb8.out (heap_lt (kept_block Hg6.out Hcw.out (kept_block Hg5.out Hcw.out Hz4.out))) (kept_block Hg6.out Hcw.out (kept_block Hg5.out Hcw.out Hz4.out))))
                    go_wp2_with fail
                    go_roundg (4 - (j + 1))
                    case measure => omega
                    case rel => exact ⟨j + 1, hj4, rfl, by go_num, Hnext⟩
                  exact AllReady.nil
                exact AllReady.nil
              exact AllReady.nil
            exact AllReady.nil
          exact AllReady.nil
        · obtain ⟨p0, p1, p2, p3, p4, p5⟩ := Row6.of hm4
          have Hgood := Lib.hid (mg.good hj)
          have Ho5 := Lib.hid (ho4.lower (B' := w.heap.size + 1) (by omega))
          have Hz9 := Lib.hid hz4
          have Hc5 := Lib.hid hst4c
          have Hg5 := Lib.hid hg4'
          have hone := ho4.one
          have hz9 := hz4
          clear hz4 hst4c hg4' ho4 mg hm4
          go_wp2_with (first | (refine wpList_store_row rfl 28 _ _ rfl w.heap.size #[y0, y1, y2, y3, y4, y5] rfl rfl 28 _ hz9 tree_size' rfl hone ?_) | fail)
          refine bodyPost_ret (v := .agg #[y0, y1, y2, y3, y4, y5]) ?_ rfl (got_set Hg5.out Hc5.out Hcw.out Hgood.out Ho5.out hn4)
          exact ret_tree rfl rfl rfl (setRow_at Hz9.out)
end Go.Proofs.YtlnfbpdicjcpgaaGreatDoor.tree
