/- Merged: DrawTree DrawTreeS DrawTreeA. -/
import Derived.Test.YtegpcjkcejijpaaGreatDoorTreeDrawM
import Derived.Test.YtegpcjkcejijpaaGreatDoorPutS
import Derived.Test.YtegpcjkcejijpaaGreatDoorGWd
import Derived.Test.YtegpcjkcejijpaaGreatDoorGDraw
namespace Go.Proofs.YtegpcjkcejijpaaGreatDoor.tree
open Go.ChangeShapes Go.WideShapes Go.ChangeAt Go.RowKit draw
set_option linter.unusedVariables false

theorem wf_int {n : Int} (h : (Lit.int .i64 n).wf = true) : -9223372036854775808 ≤ n ∧ n ≤ 9223372036854775807 := by
 have e1 : IntKind.i64.min = -9223372036854775808 := rfl
 have e2 : IntKind.i64.max = 9223372036854775807 := rfl
 simp [Lit.wf, e1, e2] at h
 exact h
def GotT (d : Nat) (c : Nat) (A : Option Addr) (len cap : Nat) (z : Nat → Int) (w : World) (e : Ending) (w' : World) : Prop :=
 ∃ t us f F, Good d t ∧ e = .returned (.agg us.toArray) ∧ OwnS w' w.heap.size f us (row t) F ∧ F.Nodup ∧ Cur w' c A len cap z ∧ w.grownBy w' (some c)
/-- The result's cell is written. -/
theorem got_set {d c len cap f : Nat} {A : Option Addr} {z : Nat → Int} {w w2 : World} {t : T} {us : List Value} {F : List Nat} (hg : w.grownBy w2 (some c)) (hc : Cur w2 c A len cap z) (hcw : c < w.heap.size) (good : Good d t) (ho : OwnS w2 (w.heap.size + 1) f us (row t) F) (hn : F.Nodup) :
  GotT d c A len cap z w (.returned (.agg us.toArray)) (w2.setRow w.heap.size us.toArray) := by
 have hb := setRow_below (Below.refl w.heap.size w2) (Nat.le_refl _) us.toArray
 refine ⟨t, us, f, F, good, rfl, (OwnS.kept (fun y hy => ?_) ho).lower (Nat.le_succ _), hn, hc.below hb hcw, grown_below hg hb⟩
 have h3 := (ho.range y hy).1
 simp only [World.setRow, Array.getElem?_modify]
 rw [if_neg (by omega)]
theorem fit_leaf {k : Int} {fl : Bool} {n : Int} {s : ByteArray} (h1 : 1 ≤ k) (h2 : k ≤ 5) (h3 : fl = true → k = 2) (h4 : n ≠ 0 → k = 3) (h5 : 0 < s.size → k = 4) : Fit k fl n s 0 0 :=
 ⟨h1, by omega, h3, h4, h5, by simp, by simp, by omega⟩
theorem empty_word : WordOk ⟨#[]⟩ := ⟨by decide, runes_ascii rfl, by decide⟩
theorem own_leaf' {w : World} {B : Nat} {k : Int} {fl : Bool} {n : Int} {s : ByteArray} (h1 : 1 ≤ k) (h2 : k ≤ 5) (hn : (Lit.int .i64 n).wf = true) (hs : s.size ≤ maxLen) : OwnS w B 1 [.int .i64 k, .bool fl, .int .i64 n, .string s, .slice none 0 0, .slice none 0 0] (row (.mk k fl n s [] [])) [] :=
 own_leaf 0 (wf_small (by omega) (by omega)) hn hs
theorem kept_block {w w2 : World} {c g : Nat} {o : Obj} (hg : w.grownBy w2 (some c)) (hc : c < g) (h : w.heap[g]? = some o) : w2.heap[g]? = some o :=
 (hg.block g (heap_lt h) (fun e => by injection e with e; omega)).trans h
set_option maxRecDepth 1000000 in
set_option maxHeartbeats 8000000 in
theorem leaf_any (c : Nat) (A : Option Addr) (len cap : Nat) (z : Nat → Int) (w : World) (hc : Cur w c A len cap z) :
  Calls Tryz.prog 52 #[.pointer (some ⟨c, 0, none⟩), .int .i64 1] w (GotT 0 c A len cap z w) := by
 have hcw := hc.lt
 obtain ⟨w1, hw1⟩ : ∃ w1, w1 = w.alloc (.cells #[.int .i64 0, .bool false, .int .i64 0, .string ⟨#[]⟩, .slice none 0 0, .slice none 0 0] 34) := ⟨_, rfl⟩
 have hz1 : w1.heap[w.heap.size]? = some (.cells #[.int .i64 0, .bool false, .int .i64 0, .string ⟨#[]⟩, .slice none 0 0, .slice none 0 0] 34 (0, 0)) := by subst hw1; exact heap_alloc_new w _
 have H9 := Lib.hid (below_any c A len cap z 9 w1 (by rw [hw1]; exact cur_alloc hc _) (by decide) (by decide))
 have Hz1 := Lib.hid hz1
 have Hg1 := Lib.hid (show w.grownBy w1 (some c) by rw [hw1]; exact grown_alloc _ _ _)
 have Hw1 := Lib.hid hw1
 have Hcw := Lib.hid hcw
 clear hc hcw hz1 hw1
 go_enter Tryz.func52, Tryz.ntmps52
 go_wp2_with fail
 rw [← Hw1.out]
 refine H9.out.mono ?_
 rintro e w2 ⟨x, hx, rfl, hc2, hg2⟩
 have Hz2 := Lib.hid (kept_block hg2 Hcw.out Hz1.out)
 have Hc2 := Lib.hid hc2
 have Hg2 := Lib.hid (grown_trans Hg1.out hg2)
 clear H9 hc2 hg2 Hw1
 obtain rfl | rfl | rfl | rfl | rfl | rfl | rfl | rfl | rfl : x = 0 ∨ x = 1 ∨ x = 2 ∨ x = 3 ∨ x = 4 ∨ x = 5 ∨ x = 6 ∨ x = 7 ∨ x = 8 := by omega
 ·clear hx
  have hone : (#[.int .i64 1, .bool false, .int .i64 0, .string ⟨#[]⟩, .slice none 0 0, .slice none 0 0] : Array Value).all (·.oneCell') = true := by simp [Value.oneCell']
  have hz9 := Hz2.out
  go_wp2_with (first | (refine wpList_store_row rfl 34 _ _ rfl w.heap.size #[.int .i64 1, .bool false, .int .i64 0, .string ⟨#[]⟩, .slice none 0 0, .slice none 0 0] rfl rfl 34 _ hz9 tree_size' rfl hone ?_) | fail)
  refine bodyPost_ret (v := .agg #[.int .i64 1, .bool false, .int .i64 0, .string ⟨#[]⟩, .slice none 0 0, .slice none 0 0]) ?_ rfl (got_set Hg2.out Hc2.out Hcw.out (Good.leaf (fit_leaf (by decide) (by decide) (by simp) (by simp) (by simp [ByteArray.size])) empty_word (by decide)) (own_leaf' (by decide) (by decide) (wf_small (by decide) (by decide)) (by decide)) List.nodup_nil)
  exact ret_tree rfl rfl rfl (setRow_at Hz2.out)
 ·clear hx
  have HO := Lib.hid (once_any c A len cap z 2 w2 Hc2.out (by decide) (by decide))
  go_wp2_with fail
  refine HO.out.mono ?_
  rintro e w3 ⟨b, rfl, hc3, hg3⟩
  have Hz3 := Lib.hid (kept_block hg3 Hcw.out Hz2.out)
  have Hc3 := Lib.hid hc3
  have Hg3 := Lib.hid (grown_trans Hg2.out hg3)
  clear HO hc3 hg3
  have hone : (#[.int .i64 2, .bool b, .int .i64 0, .string ⟨#[]⟩, .slice none 0 0, .slice none 0 0] : Array Value).all (·.oneCell') = true := by simp [Value.oneCell']
  have hz9 := Hz3.out
  go_wp2_with (first | (refine wpList_store_row rfl 34 _ _ rfl w.heap.size #[.int .i64 2, .bool b, .int .i64 0, .string ⟨#[]⟩, .slice none 0 0, .slice none 0 0] rfl rfl 34 _ hz9 tree_size' rfl hone ?_) | fail)
  refine bodyPost_ret (v := .agg #[.int .i64 2, .bool b, .int .i64 0, .string ⟨#[]⟩, .slice none 0 0, .slice none 0 0]) ?_ rfl (got_set Hg3.out Hc3.out Hcw.out (Good.leaf (fit_leaf (by decide) (by decide) (by simp) (by simp) (by simp [ByteArray.size])) empty_word (by decide)) (own_leaf' (by decide) (by decide) (wf_small (by decide) (by decide)) (by decide)) List.nodup_nil)
  exact ret_tree rfl rfl rfl (setRow_at Hz3.out)
 ·clear hx
  have HN := Lib.hid (num_any c A len cap z w2 Hc2.out)
  go_wp2_with fail
  refine HN.out.mono ?_
  rintro e w3 ⟨n, hn, rfl, hc3, hg3⟩
  have Hz3 := Lib.hid (kept_block hg3 Hcw.out Hz2.out)
  have Hg3 := Lib.hid (grown_trans Hg2.out hg3)
  have HP := Lib.hid (pick_any c A len cap z w3.heap.size 7 7 [0, 1, -1, 42, 9223372036854775807, -9223372036854775808, n] _ (cur_alloc hc3 (.cells (icells [0, 1, -1, 42, 9223372036854775807, -9223372036854775808, n]).toArray 3)) (by decide) (by decide) rfl hc3.lt (heap_alloc_new w3 _))
  have hI : ∀ x ∈ [0, 1, -1, 42, 9223372036854775807, -9223372036854775808, n], I64 x := by
   intro x hx
   simp only [List.mem_cons, List.not_mem_nil, or_false] at hx
   rcases hx with rfl | rfl | rfl | rfl | rfl | rfl | rfl
   all_goals first | exact hn | (unfold I64; decide)
  have HI := Lib.hid hI
  clear HN hc3 hg3 hI hn
  go_wp2_with fail
  refine HP.out.mono ?_
  rintro e w4 ⟨x9, hx9, rfl, hc4, hg4⟩
  have hw9 : (Lit.int .i64 x9).wf = true := (HI.out x9 hx9).wf
  have Hw9 := Lib.hid hw9
  have Hz4 := Lib.hid (kept_block hg4 Hcw.out ((Below.heap_alloc w3 _ w.heap.size (heap_lt Hz3.out)).trans Hz3.out))
  have Hc4 := Lib.hid hc4
  have Hg4 := Lib.hid (grown_trans Hg3.out (grown_trans (grown_alloc _ _ _) hg4))
  have HT := Lib.hid (spec_int x9 w4 hw9)
  clear HP HI hc4 hg4 hx9 hw9
  go_wp2_with fail
  refine HT.out.mono ?_
  clear HT
  rintro e w5 ⟨⟨f5, us, F5, rfl, ho5, hn5⟩, hb5⟩
  obtain ⟨x0, x1, x2, x3, x4, x5, rfl⟩ := six_of (ho5.1.trans (row_length _))
  have hone := ho5.one
  have hz9 := heap_kept hb5 (heap_lt Hz4.out) Hz4.out
  have Hz9 := Lib.hid hz9
  have Hc5 := Lib.hid (Hc4.out.below hb5 Hc4.out.lt)
  have Hg5 := Lib.hid (grown_below Hg4.out (hb5.mono Hg4.out.size))
  have Ho5 := Lib.hid (ho5.lower (B' := w.heap.size + 1) (heap_lt Hz4.out))
  clear ho5 hb5
  go_wp2_with (first | (refine wpList_store_row rfl 34 _ _ rfl w.heap.size #[x0, x1, x2, x3, x4, x5] rfl rfl 34 _ hz9 tree_size' rfl hone ?_) | fail)
  refine bodyPost_ret (v := .agg #[x0, x1, x2, x3, x4, x5]) ?_ rfl (got_set Hg5.out Hc5.out Hcw.out (Good.leaf (fit_leaf (by decide) (by decide) (by simp) (by simp) (by simp [ByteArray.size])) empty_word (wf_int Hw9.out)) Ho5.out hn5)
  exact ret_tree rfl rfl rfl (setRow_at Hz9.out)
 ·clear hx
  have HN := Lib.hid (num_any c A len cap z w2 Hc2.out)
  go_wp2_with fail
  refine HN.out.mono ?_
  rintro e w3 ⟨n, hn, rfl, hc3, hg3⟩
  have Hz3 := Lib.hid (kept_block hg3 Hcw.out Hz2.out)
  have Hg3 := Lib.hid (grown_trans Hg2.out hg3)
  have HP := Lib.hid (pick_any c A len cap z w3.heap.size 7 7 [0, 1, -1, 42, 9223372036854775807, -9223372036854775808, n] _ (cur_alloc hc3 (.cells (icells [0, 1, -1, 42, 9223372036854775807, -9223372036854775808, n]).toArray 3)) (by decide) (by decide) rfl hc3.lt (heap_alloc_new w3 _))
  have hI : ∀ x ∈ [0, 1, -1, 42, 9223372036854775807, -9223372036854775808, n], I64 x := by
   intro x hx
   simp only [List.mem_cons, List.not_mem_nil, or_false] at hx
   rcases hx with rfl | rfl | rfl | rfl | rfl | rfl | rfl
   all_goals first | exact hn | (unfold I64; decide)
  have HI := Lib.hid hI
  clear HN hc3 hg3 hI hn
  go_wp2_with fail
  refine HP.out.mono ?_
  rintro e w4 ⟨x9, hx9, rfl, hc4, hg4⟩
  have hw9 : (Lit.int .i64 x9).wf = true := (HI.out x9 hx9).wf
  have Hw9 := Lib.hid hw9
  have Hz4 := Lib.hid (kept_block hg4 Hcw.out ((Below.heap_alloc w3 _ w.heap.size (heap_lt Hz3.out)).trans Hz3.out))
  have Hc4 := Lib.hid hc4
  have Hg4 := Lib.hid (grown_trans Hg3.out (grown_trans (grown_alloc _ _ _) hg4))
  have HT := Lib.hid (spec_int x9 w4 hw9)
  clear HP HI hc4 hg4 hx9 hw9
  go_wp2_with fail
  refine HT.out.mono ?_
  clear HT
  rintro e w5 ⟨⟨f5, us, F5, rfl, ho5, hn5⟩, hb5⟩
  obtain ⟨x0, x1, x2, x3, x4, x5, rfl⟩ := six_of (ho5.1.trans (row_length _))
  have hone := ho5.one
  have hz9 := heap_kept hb5 (heap_lt Hz4.out) Hz4.out
  have Hz9 := Lib.hid hz9
  have Hc5 := Lib.hid (Hc4.out.below hb5 Hc4.out.lt)
  have Hg5 := Lib.hid (grown_below Hg4.out (hb5.mono Hg4.out.size))
  have Ho5 := Lib.hid (ho5.lower (B' := w.heap.size + 1) (heap_lt Hz4.out))
  clear ho5 hb5
  go_wp2_with (first | (refine wpList_store_row rfl 34 _ _ rfl w.heap.size #[x0, x1, x2, x3, x4, x5] rfl rfl 34 _ hz9 tree_size' rfl hone ?_) | fail)
  refine bodyPost_ret (v := .agg #[x0, x1, x2, x3, x4, x5]) ?_ rfl (got_set Hg5.out Hc5.out Hcw.out (Good.leaf (fit_leaf (by decide) (by decide) (by simp) (by simp) (by simp [ByteArray.size])) empty_word (wf_int Hw9.out)) Ho5.out hn5)
  exact ret_tree rfl rfl rfl (setRow_at Hz9.out)
 ·clear hx
  have HW := Lib.hid (word_any c A len cap z w2 Hc2.out)
  go_wp2_with fail
  refine HW.out.mono ?_
  rintro e w4 ⟨s9, hs9, rfl, hc4, hg4⟩
  have Hz4 := Lib.hid (kept_block hg4 Hcw.out Hz2.out)
  have Hc4 := Lib.hid hc4
  have Hg4 := Lib.hid (grown_trans Hg2.out hg4)
  have HT := Lib.hid (spec_text s9 w4 (Nat.le_trans hs9.1 (by unfold maxLen; omega)))
  have Hs9 := Lib.hid (show WordOk s9 from hs9)
  clear HW hc4 hg4 hs9
  go_wp2_with fail
  refine HT.out.mono ?_
  clear HT
  rintro e w5 ⟨⟨f5, us, F5, rfl, ho5, hn5⟩, hb5⟩
  obtain ⟨x0, x1, x2, x3, x4, x5, rfl⟩ := six_of (ho5.1.trans (row_length _))
  have hone := ho5.one
  have hz9 := heap_kept hb5 (heap_lt Hz4.out) Hz4.out
  have Hz9 := Lib.hid hz9
  have Hc5 := Lib.hid (Hc4.out.below hb5 Hc4.out.lt)
  have Hg5 := Lib.hid (grown_below Hg4.out (hb5.mono Hg4.out.size))
  have Ho5 := Lib.hid (ho5.lower (B' := w.heap.size + 1) (heap_lt Hz4.out))
  clear ho5 hb5
  go_wp2_with (first | (refine wpList_store_row rfl 34 _ _ rfl w.heap.size #[x0, x1, x2, x3, x4, x5] rfl rfl 34 _ hz9 tree_size' rfl hone ?_) | fail)
  refine bodyPost_ret (v := .agg #[x0, x1, x2, x3, x4, x5]) ?_ rfl (got_set Hg5.out Hc5.out Hcw.out (Good.leaf (fit_leaf (by decide) (by decide) (by simp) (by simp) (by simp)) Hs9.out (by decide)) Ho5.out hn5)
  exact ret_tree rfl rfl rfl (setRow_at Hz9.out)
 ·clear hx
  have HW := Lib.hid (word_any c A len cap z w2 Hc2.out)
  go_wp2_with fail
  refine HW.out.mono ?_
  rintro e w4 ⟨s9, hs9, rfl, hc4, hg4⟩
  have Hz4 := Lib.hid (kept_block hg4 Hcw.out Hz2.out)
  have Hc4 := Lib.hid hc4
  have Hg4 := Lib.hid (grown_trans Hg2.out hg4)
  have HT := Lib.hid (spec_text s9 w4 (Nat.le_trans hs9.1 (by unfold maxLen; omega)))
  have Hs9 := Lib.hid (show WordOk s9 from hs9)
  clear HW hc4 hg4 hs9
  go_wp2_with fail
  refine HT.out.mono ?_
  clear HT
  rintro e w5 ⟨⟨f5, us, F5, rfl, ho5, hn5⟩, hb5⟩
  obtain ⟨x0, x1, x2, x3, x4, x5, rfl⟩ := six_of (ho5.1.trans (row_length _))
  have hone := ho5.one
  have hz9 := heap_kept hb5 (heap_lt Hz4.out) Hz4.out
  have Hz9 := Lib.hid hz9
  have Hc5 := Lib.hid (Hc4.out.below hb5 Hc4.out.lt)
  have Hg5 := Lib.hid (grown_below Hg4.out (hb5.mono Hg4.out.size))
  have Ho5 := Lib.hid (ho5.lower (B' := w.heap.size + 1) (heap_lt Hz4.out))
  clear ho5 hb5
  go_wp2_with (first | (refine wpList_store_row rfl 34 _ _ rfl w.heap.size #[x0, x1, x2, x3, x4, x5] rfl rfl 34 _ hz9 tree_size' rfl hone ?_) | fail)
  refine bodyPost_ret (v := .agg #[x0, x1, x2, x3, x4, x5]) ?_ rfl (got_set Hg5.out Hc5.out Hcw.out (Good.leaf (fit_leaf (by decide) (by decide) (by simp) (by simp) (by simp)) Hs9.out (by decide)) Ho5.out hn5)
  exact ret_tree rfl rfl rfl (setRow_at Hz9.out)
 ·clear hx
  have hone : (#[.int .i64 1, .bool false, .int .i64 0, .string ⟨#[]⟩, .slice none 0 0, .slice none 0 0] : Array Value).all (·.oneCell') = true := by simp [Value.oneCell']
  have hz9 := Hz2.out
  go_wp2_with (first | (refine wpList_store_row rfl 34 _ _ rfl w.heap.size #[.int .i64 1, .bool false, .int .i64 0, .string ⟨#[]⟩, .slice none 0 0, .slice none 0 0] rfl rfl 34 _ hz9 tree_size' rfl hone ?_) | fail)
  refine bodyPost_ret (v := .agg #[.int .i64 1, .bool false, .int .i64 0, .string ⟨#[]⟩, .slice none 0 0, .slice none 0 0]) ?_ rfl (got_set Hg2.out Hc2.out Hcw.out (Good.leaf (fit_leaf (by decide) (by decide) (by simp) (by simp) (by simp [ByteArray.size])) empty_word (by decide)) (own_leaf' (by decide) (by decide) (wf_small (by decide) (by decide)) (by decide)) List.nodup_nil)
  exact ret_tree rfl rfl rfl (setRow_at Hz2.out)
 ·clear hx
  have HO := Lib.hid (once_any c A len cap z 2 w2 Hc2.out (by decide) (by decide))
  go_wp2_with fail
  refine HO.out.mono ?_
  rintro e w3 ⟨b, rfl, hc3, hg3⟩
  have Hz3 := Lib.hid (kept_block hg3 Hcw.out Hz2.out)
  have Hc3 := Lib.hid hc3
  have Hg3 := Lib.hid (grown_trans Hg2.out hg3)
  clear HO hc3 hg3
  have hone : (#[.int .i64 2, .bool b, .int .i64 0, .string ⟨#[]⟩, .slice none 0 0, .slice none 0 0] : Array Value).all (·.oneCell') = true := by simp [Value.oneCell']
  have hz9 := Hz3.out
  go_wp2_with (first | (refine wpList_store_row rfl 34 _ _ rfl w.heap.size #[.int .i64 2, .bool b, .int .i64 0, .string ⟨#[]⟩, .slice none 0 0, .slice none 0 0] rfl rfl 34 _ hz9 tree_size' rfl hone ?_) | fail)
  refine bodyPost_ret (v := .agg #[.int .i64 2, .bool b, .int .i64 0, .string ⟨#[]⟩, .slice none 0 0, .slice none 0 0]) ?_ rfl (got_set Hg3.out Hc3.out Hcw.out (Good.leaf (fit_leaf (by decide) (by decide) (by simp) (by simp) (by simp [ByteArray.size])) empty_word (by decide)) (own_leaf' (by decide) (by decide) (wf_small (by decide) (by decide)) (by decide)) List.nodup_nil)
  exact ret_tree rfl rfl rfl (setRow_at Hz3.out)
 ·clear hx
  have HN := Lib.hid (num_any c A len cap z w2 Hc2.out)
  go_wp2_with fail
  refine HN.out.mono ?_
  rintro e w3 ⟨n, hn, rfl, hc3, hg3⟩
  have Hz3 := Lib.hid (kept_block hg3 Hcw.out Hz2.out)
  have Hg3 := Lib.hid (grown_trans Hg2.out hg3)
  have HP := Lib.hid (pick_any c A len cap z w3.heap.size 7 7 [0, 1, -1, 42, 9223372036854775807, -9223372036854775808, n] _ (cur_alloc hc3 (.cells (icells [0, 1, -1, 42, 9223372036854775807, -9223372036854775808, n]).toArray 3)) (by decide) (by decide) rfl hc3.lt (heap_alloc_new w3 _))
  have hI : ∀ x ∈ [0, 1, -1, 42, 9223372036854775807, -9223372036854775808, n], I64 x := by
   intro x hx
   simp only [List.mem_cons, List.not_mem_nil, or_false] at hx
   rcases hx with rfl | rfl | rfl | rfl | rfl | rfl | rfl
   all_goals first | exact hn | (unfold I64; decide)
  have HI := Lib.hid hI
  clear HN hc3 hg3 hI hn
  go_wp2_with fail
  refine HP.out.mono ?_
  rintro e w4 ⟨x9, hx9, rfl, hc4, hg4⟩
  have hw9 : (Lit.int .i64 x9).wf = true := (HI.out x9 hx9).wf
  have Hw9 := Lib.hid hw9
  have Hz4 := Lib.hid (kept_block hg4 Hcw.out ((Below.heap_alloc w3 _ w.heap.size (heap_lt Hz3.out)).trans Hz3.out))
  have Hc4 := Lib.hid hc4
  have Hg4 := Lib.hid (grown_trans Hg3.out (grown_trans (grown_alloc _ _ _) hg4))
  have HT := Lib.hid (spec_int x9 w4 hw9)
  clear HP HI hc4 hg4 hx9 hw9
  go_wp2_with fail
  refine HT.out.mono ?_
  clear HT
  rintro e w5 ⟨⟨f5, us, F5, rfl, ho5, hn5⟩, hb5⟩
  obtain ⟨x0, x1, x2, x3, x4, x5, rfl⟩ := six_of (ho5.1.trans (row_length _))
  have hone := ho5.one
  have hz9 := heap_kept hb5 (heap_lt Hz4.out) Hz4.out
  have Hz9 := Lib.hid hz9
  have Hc5 := Lib.hid (Hc4.out.below hb5 Hc4.out.lt)
  have Hg5 := Lib.hid (grown_below Hg4.out (hb5.mono Hg4.out.size))
  have Ho5 := Lib.hid (ho5.lower (B' := w.heap.size + 1) (heap_lt Hz4.out))
  clear ho5 hb5
  go_wp2_with (first | (refine wpList_store_row rfl 34 _ _ rfl w.heap.size #[x0, x1, x2, x3, x4, x5] rfl rfl 34 _ hz9 tree_size' rfl hone ?_) | fail)
  refine bodyPost_ret (v := .agg #[x0, x1, x2, x3, x4, x5]) ?_ rfl (got_set Hg5.out Hc5.out Hcw.out (Good.leaf (fit_leaf (by decide) (by decide) (by simp) (by simp) (by simp [ByteArray.size])) empty_word (wf_int Hw9.out)) Ho5.out hn5)
  exact ret_tree rfl rfl rfl (setRow_at Hz9.out)
/-- append onto a slice of the call's own, and where it lies. -/
theorem wpList_append_at {P : Program} {w : World} {ops : Array Oper} {rest : List Oper} {o : Oper} {a : Act} {Q : Exit → Act → World → Prop} (hgd : o.guard = none) (s x : Operand) (t : TypeId)
  (ho : o.op = .call { callee := .builtin .append, args := #[s, x], argTypes := #[t, t] })
  (B : Nat) (e : TypeId) (i : TypeInfo) (z : Value) (size bytes : Nat) (ht : P.underlying t = some (.slice e)) (hi : P.info? e = some i) (hz : i.zero = some z)
  (hsize : i.size = size) (hby : i.bytes = bytes) (hzs : z.cells.size = size) (hsz : 0 < size)
  (v : Value) (n : Nat) (xs : List Value) (hs : a.eval s = v) (hown : w.ownsRow B e size v n xs)
  (ad : Addr) (m c : Nat) (news : List Value) (hx : a.eval x = .slice (some ad) m c) (hl : news.length = m * size) (hnews : ∀ j u, news[j]? = some u → w.cell? (ad.add j) = some u) (h1 : ∀ u ∈ news, u.oneCell' = true)
  (h63 : n + m ≤ maxLen) (hbytes : (n + m) * bytes ≤ 140737488355328) (hbase : B ≤ w.heap.size)
  (h : ∀ v' w', w'.ownsRow B e size v' (n + m) (xs ++ news) → w.grownBy w' v.ownBlock → (v'.ownBlock = v.ownBlock ∨ v'.ownBlock = some w.heap.size) → wpList P ops Q rest (a.put o.dst v') w') :
  wpList P ops Q (o :: rest) a w := by
 refine wpList_plain hgd fun K hK => ?_
 obtain ⟨v', w', hrun, r1, r2, _, r3⟩ := run_append_own_at (P := P) w B t o.type e i z size bytes ht hi hz hsize hby hzs hsz v n xs hown ad m c news hl hnews h1 h63 hbytes hbase
 unfold Oper.wp execOp
 simp only [ho, resolve, invoke, builtin, Sem.run_bind, Sem.run_pure, Result.andThen_ok, List.map_toArray, List.map_cons, List.map_nil, hs, hx, hrun]
 exact hK _ _ (h v' w' r1 r2 r3)
theorem row_drew {w w' : World} {B f c : Nat} {e : TypeId} {size : Nat} {v : Value} {n : Nat} {cells : List C} (h : OwnRow w B f e size v n cells) (hg : w.grownBy w' (some c)) (hc : c < B) : OwnRow w' B f e size v n cells := by
 obtain ⟨xs, F, h1, h2, h3, h4, h5⟩ := h
 refine ⟨xs, F, h1.kept hg ?_, h2, OwnS.kept (fun x hx => hg.block x (h3.range x hx).2 (fun e => by injection e with e; have := (h3.range x hx).1; omega)) h3, h4, h5⟩
 cases hv : v.ownBlock with
 | none => exact .inl rfl
 | some y => exact .inr (fun e => by injection e with e; have := (h1.lt y hv).1; omega)
def ListSt (d : Nat) (c : Nat) (A : Option Addr) (len cap : Nat) (z : Nat → Int) (w : World) (j : Nat) (v : Value) (wr : World) : Prop :=
 ∃ kids f, kids.length = j ∧ (∀ x ∈ kids, Good d x) ∧ OwnRow wr (w.heap.size + 1) f 34 6 v j (rows kids) ∧ Cur wr c A len cap z ∧ w.grownBy wr (some c) ∧ wr.heap[w.heap.size]? = some (.cells #[.int .i64 0, .bool false, .int .i64 0, .string ⟨#[]⟩, .slice none 0 0, .slice none 0 0] 34 (0, 0))
theorem ListSt.drew {d c len cap j : Nat} {A : Option Addr} {z : Nat → Int} {w wr w2 : World} {v : Value} (h : ListSt d c A len cap z w j v wr) (hcw : c < w.heap.size) (hc2 : Cur w2 c A len cap z) (hg : wr.grownBy w2 (some c)) : ListSt d c A len cap z w j v w2 := by
 obtain ⟨kids, f, h1, h2, h3, h4, h5, h6⟩ := h
 exact ⟨kids, f, h1, h2, row_drew h3 hg (by omega), hc2, grown_trans h5 hg, kept_block hg hcw h6⟩
theorem ListSt.snoc {d c len cap j B2 f2 : Nat} {A : Option Addr} {z : Nat → Int} {w wr wa w' : World} {v v' : Value} {xs us : List Value} {G : List Nat} {t : T} (hcw : c < w.heap.size)
  (h1 : ∃ kids f F, kids.length = j ∧ (∀ x ∈ kids, Good d x) ∧ (rows kids).length = j * 6 ∧ OwnS wr (w.heap.size + 1) f xs (rows kids) F ∧ F.Nodup ∧ (∀ x ∈ F, v.ownBlock ≠ some x) ∧ (∀ x ∈ F, x < B2)) (hvB : ∀ k, v.ownBlock = some k → k < B2) (hB2 : w.heap.size + 1 ≤ B2)
  (hc : Cur wr c A len cap z) (hg : w.grownBy wr (some c)) (hz : wr.heap[w.heap.size]? = some (.cells #[.int .i64 0, .bool false, .int .i64 0, .string ⟨#[]⟩, .slice none 0 0, .slice none 0 0] 34 (0, 0))) (hd : Good d t) (ho : OwnS wr B2 f2 us (row t) G) (hnG : G.Nodup) (hb : Below wr.heap.size wr wa)
  (hown : w'.ownsRow (w.heap.size + 1) 34 6 v' (j + 1) (xs ++ us)) (hv : ∀ k, v.ownBlock = some k → w.heap.size + 1 ≤ k) (hgr : wa.grownBy w' v.ownBlock) (hat : v'.ownBlock = v.ownBlock ∨ v'.ownBlock = some wa.heap.size) : ListSt d c A len cap z w (j + 1) v' w' := by
 obtain ⟨kids, f, F, k1, k2, k3, k4, k5, k6, k7⟩ := h1
 have hgb : Below (w.heap.size + 1) wr w' := (hb.mono (heap_lt hz)).grown hgr (Nat.le_trans (heap_lt hz) hb.size) hv
 have hr := OwnRow.grow (f := max f f2) (w' := w') (v' := v') (n := j) (m := 1) k3 ((k4.deeper (Nat.le_max_left f f2)).below hb) k5 k6 (by rw [row_length]) (((ho.deeper (Nat.le_max_right f f2)).below hb).lower hB2) hnG (fun x hx hx2 => by have := k7 x hx; have := (ho.range x hx2).1; omega) (fun x hx e => by have := hvB x e; have := (ho.range x hx).1; omega) hown hgr hat
 refine ⟨kids ++ [t], max f f2, by simp [k1], ?_, ?_, hc.below hgb (by omega), grown_below hg (hgb.mono (by omega)), (hgb.block _ (by omega)).trans hz⟩
 ·intro x hx
  rcases List.mem_append.1 hx with hx | hx
  ·exact k2 x hx
  ·rw [List.mem_singleton] at hx; subst hx; exact hd
 ·rw [rows_append]
  simpa [rows] using hr
def MapSt (d : Nat) (c : Nat) (A : Option Addr) (len cap : Nat) (z : Nat → Int) (w : World) (m j : Nat) (wr : World) : Prop :=
 ∃ t us f F, MapGood d j t ∧ wr.heap[m]? = some (.cells us.toArray 34 (0, 0)) ∧ OwnS wr (m + 1) f us (row t) F ∧ F.Nodup ∧ Cur wr c A len cap z ∧ w.grownBy wr (some c) ∧ wr.heap[w.heap.size]? = some (.cells #[.int .i64 0, .bool false, .int .i64 0, .string ⟨#[]⟩, .slice none 0 0, .slice none 0 0] 34 (0, 0)) ∧ w.heap.size < m
theorem owns_drew {w w' : World} {B f c : Nat} {vs : List Value} {ds : List C} {F : List Nat} (h : OwnS w B f vs ds F) (hg : w.grownBy w' (some c)) (hc : c < B) : OwnS w' B f vs ds F :=
 OwnS.kept (fun x hx => hg.block x (h.range x hx).2 (fun e => by injection e with e; have := (h.range x hx).1; omega)) h
theorem MapSt.drew {d c len cap m j : Nat} {A : Option Addr} {z : Nat → Int} {w wr w2 : World} (h : MapSt d c A len cap z w m j wr) (hcw : c < w.heap.size) (hc2 : Cur w2 c A len cap z) (hg : wr.grownBy w2 (some c)) : MapSt d c A len cap z w m j w2 := by
 obtain ⟨t, us, f, F, h1, h2, h3, h4, h5, h6, h7, h8⟩ := h
 exact ⟨t, us, f, F, h1, kept_block hg (by omega) h2, owns_drew h3 hg (by omega), h4, hc2, grown_trans h6 hg, kept_block hg hcw h7, h8⟩
/-- A kid was put: the map's row is written anew. -/
theorem MapSt.put {d c len cap m j f3 : Nat} {A : Option Addr} {z : Nat → Int} {w w6 : World} {t kid : T} {us : List Value} {old : Array Value} {F : List Nat} {key : ByteArray} (hcw : c < w.heap.size) (hwm : w.heap.size < m) (mg : MapGood d j t) (hk : WordOk key) (good : Good d kid)
  (hm : w6.heap[m]? = some (.cells old 34 (0, 0))) (ho : OwnS w6 (m + 1) f3 us (row (putKid t key kid).1) F) (hn : F.Nodup) (hc : Cur w6 c A len cap z) (hg : w.grownBy w6 (some c)) (hz : w6.heap[w.heap.size]? = some (.cells #[.int .i64 0, .bool false, .int .i64 0, .string ⟨#[]⟩, .slice none 0 0, .slice none 0 0] 34 (0, 0))) : MapSt d c A len cap z w m (j + 1) (w6.setRow m us.toArray) := by
 have hb : Below m w6 (w6.setRow m us.toArray) := setRow_below (Below.refl m w6) (Nat.le_refl _) us.toArray
 refine ⟨_, us, f3, F, mg.put hk good, setRow_at hm, OwnS.kept (fun y hy => ?_) ho, hn, hc.below hb (by omega), grown_below hg (hb.mono (by omega)), (hb.block _ hwm).trans hz, hwm⟩
 have h3 := (ho.range y hy).1
 simp only [World.setRow, Array.getElem?_modify]
 rw [if_neg (by omega)]
/-- A whole struct stored, as one step of a region that draws its order. -/
theorem step_store_row {P : Program} {ops : Array Oper} {o : Oper} {a : Act} {w : World} {K : Act → World → Prop} {Q : Exit → Act → World → Prop} {E : Prop} (hg : o.guard = none) (ty : TypeId) (x y : Operand) (ho : o.op = .store ty x y)
  (g : Nat) (cells : Array Value) (hx : a.eval x = .pointer (some ⟨g, 0, none⟩)) (hy : a.eval y = .agg cells) (t : TypeId) (old : Array Value) (hgd : w.heap[g]? = some (.cells old t (0, 0))) (hi : (P.info? ty).map (·.size) = some cells.size)
  (hold : old.size = cells.size) (h1 : cells.all (·.oneCell') = true) (h : K (a.put o.dst undef) (w.setRow g cells)) : if Region.wanted o (yielded ops a.tmps) = true then Oper.wp P o a w K Q else E := by
 have hw : Region.wanted o (yielded ops a.tmps) = true := by simp [Region.wanted, hg]
 rw [if_pos hw]
 exact wp_store_row ty x y ho g cells hx hy t old hgd hi hold h1 h
end Go.Proofs.YtegpcjkcejijpaaGreatDoor.tree
namespace Go.Proofs.YtegpcjkcejijpaaGreatDoor.tree
open Go.ChangeShapes Go.WideShapes Go.ChangeAt Go.RowKit draw
set_option linter.unusedVariables false
set_option maxRecDepth 1000000 in
set_option maxHeartbeats 8000000 in
theorem tree_step (d : Nat) (deep : Int) (hd1 : 2 ≤ deep) (hd2 : deep ≤ 4) (hd : d ≤ 2) (IH : ∀ (c : Nat) (A : Option Addr) (len cap : Nat) (z : Nat → Int) (w : World), Cur w c A len cap z → Calls Tryz.prog 52 #[.pointer (some ⟨c, 0, none⟩), .int .i64 (deep - 1)] w (GotT d c A len cap z w)) (c : Nat) (A : Option Addr) (len cap : Nat) (z : Nat → Int) (w : World) (hc : Cur w c A len cap z) :
  Calls Tryz.prog 52 #[.pointer (some ⟨c, 0, none⟩), .int .i64 deep] w (GotT (d + 1) c A len cap z w) := by
 have hcw := hc.lt
 have HIH := Lib.hid IH
 have e1 : ¬ deep ≤ 1 := by omega
 have e2 : decide (deep ≤ 1) = false := decide_eq_false e1
 clear IH
 obtain ⟨w1, hw1⟩ : ∃ w1, w1 = w.alloc (.cells #[.int .i64 0, .bool false, .int .i64 0, .string ⟨#[]⟩, .slice none 0 0, .slice none 0 0] 34) := ⟨_, rfl⟩
 have hz1 : w1.heap[w.heap.size]? = some (.cells #[.int .i64 0, .bool false, .int .i64 0, .string ⟨#[]⟩, .slice none 0 0, .slice none 0 0] 34 (0, 0)) := by subst hw1; exact heap_alloc_new w _
 have H9 := Lib.hid (below_any c A len cap z 9 w1 (by rw [hw1]; exact cur_alloc hc _) (by decide) (by decide))
 have Hz1 := Lib.hid hz1
 have Hg1 := Lib.hid (show w.grownBy w1 (some c) by rw [hw1]; exact grown_alloc _ _ _)
 have Hw1 := Lib.hid hw1
 have Hcw := Lib.hid hcw
 clear hc hcw hz1 hw1
 go_enter Tryz.func52, Tryz.ntmps52
 go_wp2_with fail
 rw [← Hw1.out]
 refine H9.out.mono ?_
 rintro e w2 ⟨x, hx, rfl, hc2, hg2⟩
 have Hz2 := Lib.hid (kept_block hg2 Hcw.out Hz1.out)
 have Hc2 := Lib.hid hc2
 have Hg2 := Lib.hid (grown_trans Hg1.out hg2)
 clear H9 hc2 hg2 Hw1
 obtain ⟨i1, hi', hy0, hy1, hy2⟩ := info_parts TryzinfoTree'
 have hxs : x = 0 ∨ x = 1 ∨ x = 2 ∨ x = 3 ∨ x = 4 ∨ x = 5 ∨ x = 6 ∨ 7 ≤ x := by omega
 obtain rfl | rfl | rfl | rfl | rfl | rfl | rfl | h7 := hxs
 ·clear hx
  have hone : (#[.int .i64 1, .bool false, .int .i64 0, .string ⟨#[]⟩, .slice none 0 0, .slice none 0 0] : Array Value).all (·.oneCell') = true := by simp [Value.oneCell']
  have hz9 := Hz2.out
  go_wp2_with (first | (refine wpList_store_row rfl 34 _ _ rfl w.heap.size #[.int .i64 1, .bool false, .int .i64 0, .string ⟨#[]⟩, .slice none 0 0, .slice none 0 0] rfl rfl 34 _ hz9 tree_size' rfl hone ?_) | fail)
  refine bodyPost_ret (v := .agg #[.int .i64 1, .bool false, .int .i64 0, .string ⟨#[]⟩, .slice none 0 0, .slice none 0 0]) ?_ rfl (got_set Hg2.out Hc2.out Hcw.out (Good.leaf (fit_leaf (by decide) (by decide) (by simp) (by simp) (by simp [ByteArray.size])) empty_word (by decide)) (own_leaf' (by decide) (by decide) (wf_small (by decide) (by decide)) (by decide)) List.nodup_nil)
  exact ret_tree rfl rfl rfl (setRow_at Hz2.out)
 ·clear hx
  have HO := Lib.hid (once_any c A len cap z 2 w2 Hc2.out (by decide) (by decide))
  go_wp2_with fail
  refine HO.out.mono ?_
  rintro e w3 ⟨b, rfl, hc3, hg3⟩
  have Hz3 := Lib.hid (kept_block hg3 Hcw.out Hz2.out)
  have Hc3 := Lib.hid hc3
  have Hg3 := Lib.hid (grown_trans Hg2.out hg3)
  clear HO hc3 hg3
  have hone : (#[.int .i64 2, .bool b, .int .i64 0, .string ⟨#[]⟩, .slice none 0 0, .slice none 0 0] : Array Value).all (·.oneCell') = true := by simp [Value.oneCell']
  have hz9 := Hz3.out
  go_wp2_with (first | (refine wpList_store_row rfl 34 _ _ rfl w.heap.size #[.int .i64 2, .bool b, .int .i64 0, .string ⟨#[]⟩, .slice none 0 0, .slice none 0 0] rfl rfl 34 _ hz9 tree_size' rfl hone ?_) | fail)
  refine bodyPost_ret (v := .agg #[.int .i64 2, .bool b, .int .i64 0, .string ⟨#[]⟩, .slice none 0 0, .slice none 0 0]) ?_ rfl (got_set Hg3.out Hc3.out Hcw.out (Good.leaf (fit_leaf (by decide) (by decide) (by simp) (by simp) (by simp [ByteArray.size])) empty_word (by decide)) (own_leaf' (by decide) (by decide) (wf_small (by decide) (by decide)) (by decide)) List.nodup_nil)
  exact ret_tree rfl rfl rfl (setRow_at Hz3.out)
 ·clear hx
  have HN := Lib.hid (num_any c A len cap z w2 Hc2.out)
  go_wp2_with fail
  refine HN.out.mono ?_
  rintro e w3 ⟨n, hn, rfl, hc3, hg3⟩
  have Hz3 := Lib.hid (kept_block hg3 Hcw.out Hz2.out)
  have Hg3 := Lib.hid (grown_trans Hg2.out hg3)
  have HP := Lib.hid (pick_any c A len cap z w3.heap.size 7 7 [0, 1, -1, 42, 9223372036854775807, -9223372036854775808, n] _ (cur_alloc hc3 (.cells (icells [0, 1, -1, 42, 9223372036854775807, -9223372036854775808, n]).toArray 3)) (by decide) (by decide) rfl hc3.lt (heap_alloc_new w3 _))
  have hI : ∀ x ∈ [0, 1, -1, 42, 9223372036854775807, -9223372036854775808, n], I64 x := by
   intro x hx
   simp only [List.mem_cons, List.not_mem_nil, or_false] at hx
   rcases hx with rfl | rfl | rfl | rfl | rfl | rfl | rfl
   all_goals first | exact hn | (unfold I64; decide)
  have HI := Lib.hid hI
  clear HN hc3 hg3 hI hn
  go_wp2_with fail
  refine HP.out.mono ?_
  rintro e w4 ⟨x9, hx9, rfl, hc4, hg4⟩
  have hw9 : (Lit.int .i64 x9).wf = true := (HI.out x9 hx9).wf
  have Hw9 := Lib.hid hw9
  have Hz4 := Lib.hid (kept_block hg4 Hcw.out ((Below.heap_alloc w3 _ w.heap.size (heap_lt Hz3.out)).trans Hz3.out))
  have Hc4 := Lib.hid hc4
  have Hg4 := Lib.hid (grown_trans Hg3.out (grown_trans (grown_alloc _ _ _) hg4))
  have HT := Lib.hid (spec_int x9 w4 hw9)
  clear HP HI hc4 hg4 hx9 hw9
  go_wp2_with fail
  refine HT.out.mono ?_
  clear HT
  rintro e w5 ⟨⟨f5, us, F5, rfl, ho5, hn5⟩, hb5⟩
  obtain ⟨x0, x1, x2, x3, x4, x5, rfl⟩ := six_of (ho5.1.trans (row_length _))
  have hone := ho5.one
  have hz9 := heap_kept hb5 (heap_lt Hz4.out) Hz4.out
  have Hz9 := Lib.hid hz9
  have Hc5 := Lib.hid (Hc4.out.below hb5 Hc4.out.lt)
  have Hg5 := Lib.hid (grown_below Hg4.out (hb5.mono Hg4.out.size))
  have Ho5 := Lib.hid (ho5.lower (B' := w.heap.size + 1) (heap_lt Hz4.out))
  clear ho5 hb5
  go_wp2_with (first | (refine wpList_store_row rfl 34 _ _ rfl w.heap.size #[x0, x1, x2, x3, x4, x5] rfl rfl 34 _ hz9 tree_size' rfl hone ?_) | fail)
  refine bodyPost_ret (v := .agg #[x0, x1, x2, x3, x4, x5]) ?_ rfl (got_set Hg5.out Hc5.out Hcw.out (Good.leaf (fit_leaf (by decide) (by decide) (by simp) (by simp) (by simp [ByteArray.size])) empty_word (wf_int Hw9.out)) Ho5.out hn5)
  exact ret_tree rfl rfl rfl (setRow_at Hz9.out)
 ·clear hx
  have HN := Lib.hid (num_any c A len cap z w2 Hc2.out)
  go_wp2_with fail
  refine HN.out.mono ?_
  rintro e w3 ⟨n, hn, rfl, hc3, hg3⟩
  have Hz3 := Lib.hid (kept_block hg3 Hcw.out Hz2.out)
  have Hg3 := Lib.hid (grown_trans Hg2.out hg3)
  have HP := Lib.hid (pick_any c A len cap z w3.heap.size 7 7 [0, 1, -1, 42, 9223372036854775807, -9223372036854775808, n] _ (cur_alloc hc3 (.cells (icells [0, 1, -1, 42, 9223372036854775807, -9223372036854775808, n]).toArray 3)) (by decide) (by decide) rfl hc3.lt (heap_alloc_new w3 _))
  have hI : ∀ x ∈ [0, 1, -1, 42, 9223372036854775807, -9223372036854775808, n], I64 x := by
   intro x hx
   simp only [List.mem_cons, List.not_mem_nil, or_false] at hx
   rcases hx with rfl | rfl | rfl | rfl | rfl | rfl | rfl
   all_goals first | exact hn | (unfold I64; decide)
  have HI := Lib.hid hI
  clear HN hc3 hg3 hI hn
  go_wp2_with fail
  refine HP.out.mono ?_
  rintro e w4 ⟨x9, hx9, rfl, hc4, hg4⟩
  have hw9 : (Lit.int .i64 x9).wf = true := (HI.out x9 hx9).wf
  have Hw9 := Lib.hid hw9
  have Hz4 := Lib.hid (kept_block hg4 Hcw.out ((Below.heap_alloc w3 _ w.heap.size (heap_lt Hz3.out)).trans Hz3.out))
  have Hc4 := Lib.hid hc4
  have Hg4 := Lib.hid (grown_trans Hg3.out (grown_trans (grown_alloc _ _ _) hg4))
  have HT := Lib.hid (spec_int x9 w4 hw9)
  clear HP HI hc4 hg4 hx9 hw9
  go_wp2_with fail
  refine HT.out.mono ?_
  clear HT
  rintro e w5 ⟨⟨f5, us, F5, rfl, ho5, hn5⟩, hb5⟩
  obtain ⟨x0, x1, x2, x3, x4, x5, rfl⟩ := six_of (ho5.1.trans (row_length _))
  have hone := ho5.one
  have hz9 := heap_kept hb5 (heap_lt Hz4.out) Hz4.out
  have Hz9 := Lib.hid hz9
  have Hc5 := Lib.hid (Hc4.out.below hb5 Hc4.out.lt)
  have Hg5 := Lib.hid (grown_below Hg4.out (hb5.mono Hg4.out.size))
  have Ho5 := Lib.hid (ho5.lower (B' := w.heap.size + 1) (heap_lt Hz4.out))
  clear ho5 hb5
  go_wp2_with (first | (refine wpList_store_row rfl 34 _ _ rfl w.heap.size #[x0, x1, x2, x3, x4, x5] rfl rfl 34 _ hz9 tree_size' rfl hone ?_) | fail)
  refine bodyPost_ret (v := .agg #[x0, x1, x2, x3, x4, x5]) ?_ rfl (got_set Hg5.out Hc5.out Hcw.out (Good.leaf (fit_leaf (by decide) (by decide) (by simp) (by simp) (by simp [ByteArray.size])) empty_word (wf_int Hw9.out)) Ho5.out hn5)
  exact ret_tree rfl rfl rfl (setRow_at Hz9.out)
 ·clear hx
  have HW := Lib.hid (word_any c A len cap z w2 Hc2.out)
  go_wp2_with fail
  refine HW.out.mono ?_
  rintro e w4 ⟨s9, hs9, rfl, hc4, hg4⟩
  have Hz4 := Lib.hid (kept_block hg4 Hcw.out Hz2.out)
  have Hc4 := Lib.hid hc4
  have Hg4 := Lib.hid (grown_trans Hg2.out hg4)
  have HT := Lib.hid (spec_text s9 w4 (Nat.le_trans hs9.1 (by unfold maxLen; omega)))
  have Hs9 := Lib.hid (show WordOk s9 from hs9)
  clear HW hc4 hg4 hs9
  go_wp2_with fail
  refine HT.out.mono ?_
  clear HT
  rintro e w5 ⟨⟨f5, us, F5, rfl, ho5, hn5⟩, hb5⟩
  obtain ⟨x0, x1, x2, x3, x4, x5, rfl⟩ := six_of (ho5.1.trans (row_length _))
  have hone := ho5.one
  have hz9 := heap_kept hb5 (heap_lt Hz4.out) Hz4.out
  have Hz9 := Lib.hid hz9
  have Hc5 := Lib.hid (Hc4.out.below hb5 Hc4.out.lt)
  have Hg5 := Lib.hid (grown_below Hg4.out (hb5.mono Hg4.out.size))
  have Ho5 := Lib.hid (ho5.lower (B' := w.heap.size + 1) (heap_lt Hz4.out))
  clear ho5 hb5
  go_wp2_with (first | (refine wpList_store_row rfl 34 _ _ rfl w.heap.size #[x0, x1, x2, x3, x4, x5] rfl rfl 34 _ hz9 tree_size' rfl hone ?_) | fail)
  refine bodyPost_ret (v := .agg #[x0, x1, x2, x3, x4, x5]) ?_ rfl (got_set Hg5.out Hc5.out Hcw.out (Good.leaf (fit_leaf (by decide) (by decide) (by simp) (by simp) (by simp)) Hs9.out (by decide)) Ho5.out hn5)
  exact ret_tree rfl rfl rfl (setRow_at Hz9.out)
 ·clear hx
  have HW := Lib.hid (word_any c A len cap z w2 Hc2.out)
  go_wp2_with fail
  refine HW.out.mono ?_
  rintro e w4 ⟨s9, hs9, rfl, hc4, hg4⟩
  have Hz4 := Lib.hid (kept_block hg4 Hcw.out Hz2.out)
  have Hc4 := Lib.hid hc4
  have Hg4 := Lib.hid (grown_trans Hg2.out hg4)
  have HT := Lib.hid (spec_text s9 w4 (Nat.le_trans hs9.1 (by unfold maxLen; omega)))
  have Hs9 := Lib.hid (show WordOk s9 from hs9)
  clear HW hc4 hg4 hs9
  go_wp2_with fail
  refine HT.out.mono ?_
  clear HT
  rintro e w5 ⟨⟨f5, us, F5, rfl, ho5, hn5⟩, hb5⟩
  obtain ⟨x0, x1, x2, x3, x4, x5, rfl⟩ := six_of (ho5.1.trans (row_length _))
  have hone := ho5.one
  have hz9 := heap_kept hb5 (heap_lt Hz4.out) Hz4.out
  have Hz9 := Lib.hid hz9
  have Hc5 := Lib.hid (Hc4.out.below hb5 Hc4.out.lt)
  have Hg5 := Lib.hid (grown_below Hg4.out (hb5.mono Hg4.out.size))
  have Ho5 := Lib.hid (ho5.lower (B' := w.heap.size + 1) (heap_lt Hz4.out))
  clear ho5 hb5
  go_wp2_with (first | (refine wpList_store_row rfl 34 _ _ rfl w.heap.size #[x0, x1, x2, x3, x4, x5] rfl rfl 34 _ hz9 tree_size' rfl hone ?_) | fail)
  refine bodyPost_ret (v := .agg #[x0, x1, x2, x3, x4, x5]) ?_ rfl (got_set Hg5.out Hc5.out Hcw.out (Good.leaf (fit_leaf (by decide) (by decide) (by simp) (by simp) (by simp)) Hs9.out (by decide)) Ho5.out hn5)
  exact ret_tree rfl rfl rfl (setRow_at Hz9.out)
 ·clear hx
  obtain ⟨w3, hw3⟩ : ∃ w3, w3 = w2.alloc (.cells #[] 34) := ⟨_, rfl⟩
  have Hst := Lib.hid (show ListSt d c A len cap z w 0 (.slice (some ⟨w2.heap.size, 0, none⟩) 0 0) w3 from ⟨[], 0, rfl, by simp, by
    subst hw3
    exact OwnRow.of_lit (World.ownsRow_lit (size := 6) (base := w.heap.size + 1) (e := 34) w2 #[] 0 (heap_lt Hz2.out) (by simp [maxLen]) rfl), by subst hw3; exact cur_alloc Hc2.out _, by subst hw3; exact grown_trans Hg2.out (grown_alloc _ _ _), by subst hw3; rw [Below.heap_alloc _ _ _ (heap_lt Hz2.out)]; exact Hz2.out⟩)
  have Hw3 := Lib.hid hw3
  clear hw3
  go_wp2_with fail
  rw [← Hw3.out]
  go_loopg [6, 7] 3 (fun gk s6 s7 wr => ∃ (j : Nat), j ≤ 3 ∧ gk = 3 - j ∧ s7 = .int .i64 j ∧ Hid (ListSt d c A len cap z w j s6 wr))
  case atStart => exact ⟨0, by omega, rfl, rfl, Hst⟩
  case round =>
   clear Hst Hw3 Hz2 Hc2 Hg2
   obtain ⟨j, hj, rfl, rfl, hst⟩ := hrel
   have hcr : Cur wr c A len cap z := by obtain ⟨_, _, _, _, _, h, _⟩ := hst.out; exact h
   have HB := Lib.hid (below_any c A len cap z 4 wr hcr (by decide) (by decide))
   clear hcr
   go_wp2_with fail
   refine HB.out.mono ?_
   rintro e w4 ⟨x, hx, rfl, hc4, hg4⟩
   have Hst4 := Lib.hid (hst.out.drew Hcw.out hc4 hg4)
   have HT := Lib.hid (HIH.out c A len cap z w4 hc4)
   clear HB hst hc4 hg4
   by_cases hlt : (j : Int) < x
   ·have hj3 : j + 1 ≤ 3 := by omega
    go_wp2_with fail
    refine HT.out.mono ?_
    rintro e w5 ⟨t, us, f5, G, good, rfl, ho5, hn5, hc5, hg5⟩
    obtain ⟨x0, x1, x2, x3, x4, x5, rfl⟩ := six_of (ho5.1.trans (row_length _))
    have hst4 := Hst4.out
    obtain ⟨kids, f4, k1, k2, ⟨xs, F, r1, r2, r3, r4, r5⟩, k4, k5, k6⟩ := hst4
    have hk5 : ∀ g, w.heap.size ≤ g → g < w4.heap.size → w5.heap[g]? = w4.heap[g]? := fun g h1 h2 => hg5.block g h2 (fun e => by injection e with e; have := Hcw.out; omega)
    obtain ⟨B1, b1, rfl⟩ := own_is_slice r1
    have hvb := r1.lt
    have hown5 : w5.ownsRow (w.heap.size + 1) 34 6 (.slice B1 j b1) j xs := r1.kept hg5 (by
     cases hv : (Value.slice B1 j b1).ownBlock with
     | none => exact .inl rfl
     | some y => exact .inr (fun e => by injection e with e; have := (hvb y hv).1; have := Hcw.out; omega))
    have Hsn := Lib.hid (show ∃ kids f F, kids.length = j ∧ (∀ x ∈ kids, Good d x) ∧ (rows kids).length = j * 6 ∧ OwnS w5 (w.heap.size + 1) f xs (rows kids) F ∧ F.Nodup ∧ (∀ x ∈ F, (Value.slice B1 j b1).ownBlock ≠ some x) ∧ (∀ x ∈ F, x < w4.heap.size) from
     ⟨kids, f4, F, k1, k2, by rw [rows_length, k1], OwnS.kept (fun y hy => hk5 y (by have := (r3.range y hy).1; omega) (r3.range y hy).2) r3, r4, r5, fun y hy => (r3.range y hy).2⟩)
    have Hvb := Lib.hid hvb
    have hz5 := kept_block hg5 Hcw.out k6
    have Hz5 := Lib.hid hz5
    have Hc5 := Lib.hid hc5
    have Hg5 := Lib.hid (grown_trans k5 hg5)
    have Ho5 := Lib.hid ho5
    have Hown5 := Lib.hid (own_below' hown5 (show Below w5.heap.size w5 (w5.alloc (.cells #[x0, x1, x2, x3, x4, x5] 34)) from (Below.refl _ _).alloc (Nat.le_refl _) _))
    have hone5 := ho5.ones
    have Hlow := Lib.hid (show w.heap.size + 1 ≤ w4.heap.size from heap_lt k6)
    have hlow5 : w.heap.size + 1 ≤ (w5.alloc (.cells #[x0, x1, x2, x3, x4, x5] 34)).heap.size := by have := heap_lt hz5; simp; omega
    clear ho5 hc5 hg5 k1 k2 r1 r2 r3 r4 r5 k4 k5 k6 hk5 hvb hown5 hz5 HT Hst4
    go_wp2_with (first | (at_builtin; refine wpList_append_at rfl (.tmp 53) (.tmp 58) 32 rfl (w.heap.size + 1) 34 i1 _ 6 88 Tryz.underlying32 hi' hy0 hy1 hy2 rfl (by decide) _ j xs rfl Hown5.out ⟨w5.heap.size, 0, none⟩ 1 1 [x0, x1, x2, x3, x4, x5] rfl rfl (by exact lit_cells _ _ _) hone5 (by unfold maxLen; omega) (by omega) hlow5 ?_) | fail)
    intro v7 w7 hown7 hg7 hat7
    have Hnext := Lib.hid (ListSt.snoc (f2 := f5) (B2 := w4.heap.size) Hcw.out Hsn.out (fun k hk => (Hvb.out k hk).2) Hlow.out Hc5.out Hg5.out Hz5.out good Ho5.out hn5 (show Below w5.heap.size w5 (w5.alloc (.cells #[x0, x1, x2, x3, x4, x5] 34)) from (Below.refl _ _).alloc (Nat.le_refl _) _) hown7 (fun k hk => (Hvb.out k hk).1) hg7 (hat7.imp id (fun e => e.trans (by simp))))
    clear hown7 hg7 hat7
    go_wp2_with fail
    go_roundg (3 - (j + 1))
    case measure => omega
    case rel => exact ⟨j + 1, hj3, rfl, by go_num, Hnext⟩
   ·obtain ⟨kids, f4, rfl, k2, k3, k4, k5, k6⟩ := Hst4.out
    obtain ⟨xs, F, r1, r⟩ := k3
    obtain ⟨B1, b1, rfl⟩ := own_is_slice r1
    obtain ⟨F4, o4, n4, _⟩ := OwnRow.own ⟨xs, F, r1, r⟩
    have hw4 : kids.length + weights kids ≤ 1048576 := by
     have h1 := weights_le (c := 9736) (fun x hx => (k2 x hx).light (by omega))
     have : kids.length * 9736 ≤ 3 * 9736 := Nat.mul_le_mul_right _ hj
     omega
    have HL := Lib.hid (spec_list kids B1 b1 w4 o4.lies hw4)
    have Hz4 := Lib.hid k6
    have Hc4 := Lib.hid k4
    have Hg4 := Lib.hid k5
    have Hgood := Lib.hid (Good.list (d := d) (kids := kids) (by omega) k2)
    clear k2 k4 k5 k6 r1 r o4 n4 HT Hst4 hw4
    go_wp2_with fail
    refine HL.out.mono ?_
    clear HL
    rintro e w5 ⟨⟨us, F5, rfl, ho5, hn5⟩, hb5⟩
    obtain ⟨x0, x1, x2, x3, x4, x5, rfl⟩ := six_of (ho5.1.trans (row_length _))
    have hone := ho5.one
    have hz9 := heap_kept hb5 (heap_lt Hz4.out) Hz4.out
    have Hz9 := Lib.hid hz9
    have Hc5 := Lib.hid (Hc4.out.below hb5 Hc4.out.lt)
    have Hg5 := Lib.hid (grown_below Hg4.out (hb5.mono Hg4.out.size))
    have Ho5 := Lib.hid (ho5.lower (B' := w.heap.size + 1) (heap_lt Hz4.out))
    clear ho5 hb5
    go_wp2_with (first | (refine wpList_store_row rfl 34 _ _ rfl w.heap.size #[x0, x1, x2, x3, x4, x5] rfl rfl 34 _ hz9 tree_size' rfl hone ?_) | fail)
    refine bodyPost_ret (v := .agg #[x0, x1, x2, x3, x4, x5]) ?_ rfl (got_set Hg5.out Hc5.out Hcw.out Hgood.out Ho5.out hn5)
    exact ret_tree rfl rfl rfl (setRow_at Hz9.out)
 ·obtain rfl | rfl : x = 7 ∨ x = 8 := by omega
  all_goals
   clear hx h7
   obtain ⟨w3, hw3⟩ : ∃ w3, w3 = w2.alloc (.cells #[.int .i64 6, .bool false, .int .i64 0, .string ⟨#[]⟩, .slice none 0 0, .slice none 0 0] 34) := ⟨_, rfl⟩
   have Hst := Lib.hid (show MapSt d c A len cap z w w2.heap.size 0 w3 from ⟨_, [.int .i64 6, .bool false, .int .i64 0, .string ⟨#[]⟩, .slice none 0 0, .slice none 0 0], 1, [], MapGood.start d, by subst hw3; exact heap_alloc_new w2 _, own_leaf 0 (wf_small (by decide) (by decide)) (wf_small (by decide) (by decide)) (by decide), List.nodup_nil, by subst hw3; exact cur_alloc Hc2.out _, by subst hw3; exact grown_trans Hg2.out (grown_alloc _ _ _), by subst hw3; rw [Below.heap_alloc _ _ _ (heap_lt Hz2.out)]; exact Hz2.out, heap_lt Hz2.out⟩)
   have Hw3 := Lib.hid hw3
   clear hw3
   go_wp2_with fail
   rw [← Hw3.out]
   go_loopg [9] 4 (fun gk s9 wr => ∃ (j : Nat), j ≤ 4 ∧ gk = 4 - j ∧ s9 = .int .i64 j ∧ Hid (MapSt d c A len cap z w w2.heap.size j wr))
   case atStart => exact ⟨0, by omega, rfl, rfl, Hst⟩
   case round =>
    clear Hst Hw3 Hz2 Hc2 Hg2
    obtain ⟨j, hj, rfl, rfl, hst⟩ := hrel
    have hcr : Cur wr c A len cap z := by obtain ⟨_, _, _, _, _, _, _, _, h, _⟩ := hst.out; exact h
    have HB := Lib.hid (below_any c A len cap z 5 wr hcr (by decide) (by decide))
    clear hcr
    go_wp2_with fail
    refine HB.out.mono ?_
    rintro e w4 ⟨x, hx, rfl, hc4, hg4⟩
    obtain ⟨t, us, f4, F, mg, hm4, ho4, hn4, hst4c, hg4', hz4, hlo4⟩ := hst.out.drew Hcw.out hc4 hg4
    obtain ⟨y0, y1, y2, y3, y4, y5, rfl⟩ := six_of (ho4.1.trans (row_length _))
    clear HB hst hc4 hg4
    have hcm : c < w2.heap.size := by have := Hcw.out; omega
    by_cases hlt : (j : Int) < x
    ·have hj4 : j + 1 ≤ 4 := by omega
     obtain ⟨p0, p1, p2, p3, p4, p5⟩ := Row6.of hm4
     have Hm4 := Lib.hid (show w4.drew.heap[w2.heap.size]? = _ from hm4)
     have HWd := Lib.hid (fun w' (h : Cur w' c A len cap z) => word_any c A len cap z w' h)
     have hwr : IntKind.i64.wrap (deep - 1) = deep - 1 := by rw [IntKind.wrap_i64]; omega
     have HTd := Lib.hid (show ∀ w', Cur w' c A len cap z → Calls Tryz.prog 52 #[.pointer (some ⟨c, 0, none⟩), .int .i64 (IntKind.i64.wrap (deep - 1))] w' (GotT d c A len cap z w') from fun w' h => by rw [hwr]; exact HIH.out c A len cap z w' h)
     clear hwr
     have Hc4 := Lib.hid (show Cur w4.drew c A len cap z from hst4c)
     have Ho4 := Lib.hid (ho4.below (Below.refl _ _).drew)
     have Hg4 := Lib.hid (grown_below hg4' (Below.refl _ _).drew)
     have Hz4 := Lib.hid (show w4.drew.heap[w.heap.size]? = _ from hz4)
     have Hmg := Lib.hid mg
     have hmlt := heap_lt hm4
     have hmlt4 : w2.heap.size < w4.drew.heap.size := hmlt
     clear hm4 hst4c ho4 hg4' hz4 hmlt p0 p1 p2 p3 p4 p5
     go_upto_region 26 with fail
     refine wp_region_any (by kernel_rfl) ?_
     change wpAny _ _ _ _ _ _ _ (World.drew w4)
     generalize w4.drew = wd at Hm4 Hc4 Ho4 Hg4 Hz4 hmlt4 ⊢
     obtain ⟨p0, p1, p2, p3, p4, p5⟩ := Row6.of Hm4.out
     refine wpAny_take (i := 1) (v := ?_) rfl (by kernel_rfl) (by kernel_rfl) (by kernel_rfl) (fun _ _ _ h => h) (Or.inl ⟨by rfl, ?_⟩) ?_
     rotate_left
     ·intro w'
      go_simp
      try with_reducible rfl
     try simp only [Act.put, List.setIfInBounds_toArray, List.set_cons_zero, List.set_cons_succ, List.getElem_toArray, List.getElem_cons_zero, List.getElem_cons_succ]
     refine wpAny_take (i := 3) (v := ?_) rfl (by kernel_rfl) (by kernel_rfl) (by kernel_rfl) (fun _ _ _ h => h) (Or.inl ⟨by rfl, ?_⟩) ?_
     rotate_left
     ·intro w'
      go_simp
      try with_reducible rfl
     try simp only [Act.put, List.setIfInBounds_toArray, List.set_cons_zero, List.set_cons_succ, List.getElem_toArray, List.getElem_cons_zero, List.getElem_cons_succ]
     refine wpAny_take (i := 4) (v := ?_) rfl (by kernel_rfl) (by kernel_rfl) (by kernel_rfl) (fun _ _ _ h => h) (Or.inl ⟨by rfl, ?_⟩) ?_
     rotate_left
     ·intro w'
      go_simp
      try with_reducible rfl
     try simp only [Act.put, List.setIfInBounds_toArray, List.set_cons_zero, List.set_cons_succ, List.getElem_toArray, List.getElem_cons_zero, List.getElem_cons_succ]
     refine wpAny_take (i := 5) (v := ?_) rfl (by kernel_rfl) (by kernel_rfl) (by kernel_rfl) (fun _ _ _ h => h) (Or.inl ⟨by rfl, ?_⟩) ?_
     rotate_left
     ·intro w'
      go_simp
      try with_reducible rfl
     try simp only [Act.put, List.setIfInBounds_toArray, List.set_cons_zero, List.set_cons_succ, List.getElem_toArray, List.getElem_cons_zero, List.getElem_cons_succ]
     refine wpAny_ready (rs := [0, 2]) (by kernel_rfl) (by simp) ?_
     refine AllReady.cons rfl (fun K hK => ?_) ?_
     ·go_simp
      (refine hK _ _ ?_; clear hK K)
      try simp only [Act.put, List.setIfInBounds_toArray, List.set_cons_zero, List.set_cons_succ, List.getElem_toArray, List.getElem_cons_zero, List.getElem_cons_succ]
      refine wpAny_ready (rs := [2]) (by kernel_rfl) (by simp) ?_
      refine AllReady.cons rfl (fun K hK => ?_) ?_
      ·go_simp
       go_at_call 34
       refine (HWd.out _ Hc4.out).mono ?_
       rintro e w5 ⟨key, hkey, rfl, hc5, hg5⟩
       have Hc5 := Lib.hid hc5
       have Hg5 := Lib.hid hg5
       have Hkey := Lib.hid hkey
       have Hm5 := Lib.hid (kept_block hg5 hcm Hm4.out)
       clear hc5 hg5 hkey
       obtain ⟨p0, p1, p2, p3, p4, p5⟩ := Row6.of Hm5.out
       (refine hK _ _ ?_; clear hK K)
       try simp only [Act.put, List.setIfInBounds_toArray, List.set_cons_zero, List.set_cons_succ, List.getElem_toArray, List.getElem_cons_zero, List.getElem_cons_succ]
       refine wpAny_ready (rs := [6]) (by kernel_rfl) (by simp) ?_
       refine AllReady.cons rfl (fun K hK => ?_) ?_
       ·go_simp
        go_at_call 52
        refine (HTd.out _ Hc5.out).mono ?_
        rintro e w6 ⟨kid, kv, f6, F6, good, rfl, ho6, hn6, hc6, hg6⟩
        obtain ⟨k0, k1, k2, k3, k4, k5, rfl⟩ := six_of (ho6.1.trans (row_length _))
        have Hc6 := Lib.hid hc6
        have Hg6 := Lib.hid hg6
        have Ho6 := Lib.hid ho6
        have Hgood := Lib.hid good
        have Hm6 := Lib.hid (kept_block hg6 hcm Hm5.out)
        clear hc6 hg6 ho6 good
        obtain ⟨p0, p1, p2, p3, p4, p5⟩ := Row6.of Hm6.out
        (refine hK _ _ ?_; clear hK K)
        try simp only [Act.put, List.setIfInBounds_toArray, List.set_cons_zero, List.set_cons_succ, List.getElem_toArray, List.getElem_cons_zero, List.getElem_cons_succ]
        refine wpAny_ready (rs := [7]) (by kernel_rfl) (by simp) ?_
        refine AllReady.cons rfl (fun K hK => ?_) ?_
        ·go_simp
         go_at_call 99
         refine (spec_put (f := max f4 f6) t key kid [y0, y1, y2, y3, y4, y5] [k0, k1, k2, k3, k4, k5] w6 (((owns_drew (owns_drew Ho4.out Hg5.out (by omega)) Hg6.out (by omega)).lies).deeper (Nat.le_max_left _ _)) ((Ho6.out.lies).deeper (Nat.le_max_right _ _)) (Nat.le_trans Hkey.out.1 (show 28 ≤ maxLen by decide)) (Nat.le_trans ((Hmg.out.good hj).light (by omega)) (by omega)) (Nat.le_trans (Hgood.out.light (by omega)) (by omega))).mono ?_
         rintro e w8 ⟨⟨us8, F8, rfl, ho8, hn8⟩, hb8⟩
         obtain ⟨x0, x1, x2, x3, x4, x5, rfl⟩ := six_of (ho8.1.trans (row_length _))
         have Hm8 := Lib.hid (heap_kept hb8 (heap_lt Hm6.out) Hm6.out)
         have Ho8 := Lib.hid ho8
         have Hb8 := Lib.hid hb8
         have hone8 := ho8.one
         clear ho8 hb8
         (refine hK _ _ ?_; clear hK K)
         try simp only [Act.put, List.setIfInBounds_toArray, List.set_cons_zero, List.set_cons_succ, List.getElem_toArray, List.getElem_cons_zero, List.getElem_cons_succ]
         refine wpAny_take (i := 8) (v := ?_) rfl (by kernel_rfl) (by kernel_rfl) (by kernel_rfl) (fun _ _ _ h => h) (Or.inl ⟨by rfl, ?_⟩) ?_
         rotate_left
         ·intro w'
          go_simp
          try with_reducible rfl
         try simp only [Act.put, List.setIfInBounds_toArray, List.set_cons_zero, List.set_cons_succ, List.getElem_toArray, List.getElem_cons_zero, List.getElem_cons_succ]
         refine wpAny_take (i := 9) (v := ?_) rfl (by kernel_rfl) (by kernel_rfl) (by kernel_rfl) (fun _ _ _ h => h) (Or.inl ⟨by rfl, ?_⟩) ?_
         rotate_left
         ·intro w'
          go_simp
          try with_reducible rfl
         try simp only [Act.put, List.setIfInBounds_toArray, List.set_cons_zero, List.set_cons_succ, List.getElem_toArray, List.getElem_cons_zero, List.getElem_cons_succ]
         refine wpAny_take (i := 10) (v := ?_) rfl (by kernel_rfl) (by kernel_rfl) (by kernel_rfl) (fun _ _ _ h => h) (Or.inl ⟨by rfl, ?_⟩) ?_
         rotate_left
         ·intro w'
          go_simp
          try with_reducible rfl
         try simp only [Act.put, List.setIfInBounds_toArray, List.set_cons_zero, List.set_cons_succ, List.getElem_toArray, List.getElem_cons_zero, List.getElem_cons_succ]
         refine wpAny_ready (rs := [11]) (by kernel_rfl) (by simp) ?_
         refine AllReady.cons rfl (fun K hK => ?_) ?_
         ·refine step_store_row rfl 34 _ _ rfl w2.heap.size #[x0, x1, x2, x3, x4, x5] rfl rfl 34 _ Hm8.out tree_size' rfl hone8 ?_
          (refine hK _ _ ?_; clear hK K)
          try simp only [Act.put, List.getElem_toArray, List.getElem_cons_zero, List.getElem_cons_succ]
          refine wpAny_done (by kernel_rfl) ?_ _
          have Hnext := Lib.hid (MapSt.put Hcw.out hlo4 Hmg.out Hkey.out Hgood.out Hm8.out (Ho8.out.lower (heap_lt Hm6.out)) hn8 (Hc6.out.below Hb8.out Hc6.out.lt) (grown_below (grown_trans (grown_trans Hg4.out Hg5.out) Hg6.out) (Hb8.out.mono (Nat.le_trans Hg4.out.size (Nat.le_trans Hg5.out.size Hg6.out.size)))) (heap_kept Hb8.out (heap_lt (kept_block Hg6.out Hcw.out (kept_block Hg5.out Hcw.out Hz4.out))) (kept_block Hg6.out Hcw.out (kept_block Hg5.out Hcw.out Hz4.out))))
          go_wp2_with fail
          go_roundg (4 - (j + 1))
          case measure => omega
          case rel => exact ⟨j + 1, hj4, rfl, by go_num, Hnext⟩
         exact AllReady.nil
        exact AllReady.nil
       exact AllReady.nil
      exact AllReady.nil
     refine AllReady.cons rfl (fun K hK => ?_) ?_
     ·go_simp
      go_at_call 34
      refine (HWd.out _ Hc4.out).mono ?_
      rintro e w5 ⟨key, hkey, rfl, hc5, hg5⟩
      have Hc5 := Lib.hid hc5
      have Hg5 := Lib.hid hg5
      have Hkey := Lib.hid hkey
      have Hm5 := Lib.hid (kept_block hg5 hcm Hm4.out)
      clear hc5 hg5 hkey
      obtain ⟨p0, p1, p2, p3, p4, p5⟩ := Row6.of Hm5.out
      (refine hK _ _ ?_; clear hK K)
      try simp only [Act.put, List.setIfInBounds_toArray, List.set_cons_zero, List.set_cons_succ, List.getElem_toArray, List.getElem_cons_zero, List.getElem_cons_succ]
      refine wpAny_ready (rs := [0, 6]) (by kernel_rfl) (by simp) ?_
      refine AllReady.cons rfl (fun K hK => ?_) ?_
      ·go_simp
       (refine hK _ _ ?_; clear hK K)
       try simp only [Act.put, List.setIfInBounds_toArray, List.set_cons_zero, List.set_cons_succ, List.getElem_toArray, List.getElem_cons_zero, List.getElem_cons_succ]
       refine wpAny_ready (rs := [6]) (by kernel_rfl) (by simp) ?_
       refine AllReady.cons rfl (fun K hK => ?_) ?_
       ·go_simp
        go_at_call 52
        refine (HTd.out _ Hc5.out).mono ?_
        rintro e w6 ⟨kid, kv, f6, F6, good, rfl, ho6, hn6, hc6, hg6⟩
        obtain ⟨k0, k1, k2, k3, k4, k5, rfl⟩ := six_of (ho6.1.trans (row_length _))
        have Hc6 := Lib.hid hc6
        have Hg6 := Lib.hid hg6
        have Ho6 := Lib.hid ho6
        have Hgood := Lib.hid good
        have Hm6 := Lib.hid (kept_block hg6 hcm Hm5.out)
        clear hc6 hg6 ho6 good
        obtain ⟨p0, p1, p2, p3, p4, p5⟩ := Row6.of Hm6.out
        (refine hK _ _ ?_; clear hK K)
        try simp only [Act.put, List.setIfInBounds_toArray, List.set_cons_zero, List.set_cons_succ, List.getElem_toArray, List.getElem_cons_zero, List.getElem_cons_succ]
        refine wpAny_ready (rs := [7]) (by kernel_rfl) (by simp) ?_
        refine AllReady.cons rfl (fun K hK => ?_) ?_
        ·go_simp
         go_at_call 99
         refine (spec_put (f := max f4 f6) t key kid [y0, y1, y2, y3, y4, y5] [k0, k1, k2, k3, k4, k5] w6 (((owns_drew (owns_drew Ho4.out Hg5.out (by omega)) Hg6.out (by omega)).lies).deeper (Nat.le_max_left _ _)) ((Ho6.out.lies).deeper (Nat.le_max_right _ _)) (Nat.le_trans Hkey.out.1 (show 28 ≤ maxLen by decide)) (Nat.le_trans ((Hmg.out.good hj).light (by omega)) (by omega)) (Nat.le_trans (Hgood.out.light (by omega)) (by omega))).mono ?_
         rintro e w8 ⟨⟨us8, F8, rfl, ho8, hn8⟩, hb8⟩
         obtain ⟨x0, x1, x2, x3, x4, x5, rfl⟩ := six_of (ho8.1.trans (row_length _))
         have Hm8 := Lib.hid (heap_kept hb8 (heap_lt Hm6.out) Hm6.out)
         have Ho8 := Lib.hid ho8
         have Hb8 := Lib.hid hb8
         have hone8 := ho8.one
         clear ho8 hb8
         (refine hK _ _ ?_; clear hK K)
         try simp only [Act.put, List.setIfInBounds_toArray, List.set_cons_zero, List.set_cons_succ, List.getElem_toArray, List.getElem_cons_zero, List.getElem_cons_succ]
         refine wpAny_take (i := 8) (v := ?_) rfl (by kernel_rfl) (by kernel_rfl) (by kernel_rfl) (fun _ _ _ h => h) (Or.inl ⟨by rfl, ?_⟩) ?_
         rotate_left
         ·intro w'
          go_simp
          try with_reducible rfl
         try simp only [Act.put, List.setIfInBounds_toArray, List.set_cons_zero, List.set_cons_succ, List.getElem_toArray, List.getElem_cons_zero, List.getElem_cons_succ]
         refine wpAny_take (i := 9) (v := ?_) rfl (by kernel_rfl) (by kernel_rfl) (by kernel_rfl) (fun _ _ _ h => h) (Or.inl ⟨by rfl, ?_⟩) ?_
         rotate_left
         ·intro w'
          go_simp
          try with_reducible rfl
         try simp only [Act.put, List.setIfInBounds_toArray, List.set_cons_zero, List.set_cons_succ, List.getElem_toArray, List.getElem_cons_zero, List.getElem_cons_succ]
         refine wpAny_take (i := 10) (v := ?_) rfl (by kernel_rfl) (by kernel_rfl) (by kernel_rfl) (fun _ _ _ h => h) (Or.inl ⟨by rfl, ?_⟩) ?_
         rotate_left
         ·intro w'
          go_simp
          try with_reducible rfl
         try simp only [Act.put, List.setIfInBounds_toArray, List.set_cons_zero, List.set_cons_succ, List.getElem_toArray, List.getElem_cons_zero, List.getElem_cons_succ]
         refine wpAny_ready (rs := [11]) (by kernel_rfl) (by simp) ?_
         refine AllReady.cons rfl (fun K hK => ?_) ?_
         ·refine step_store_row rfl 34 _ _ rfl w2.heap.size #[x0, x1, x2, x3, x4, x5] rfl rfl 34 _ Hm8.out tree_size' rfl hone8 ?_
          (refine hK _ _ ?_; clear hK K)
          try simp only [Act.put, List.getElem_toArray, List.getElem_cons_zero, List.getElem_cons_succ]
          refine wpAny_done (by kernel_rfl) ?_ _
          have Hnext := Lib.hid (MapSt.put Hcw.out hlo4 Hmg.out Hkey.out Hgood.out Hm8.out (Ho8.out.lower (heap_lt Hm6.out)) hn8 (Hc6.out.below Hb8.out Hc6.out.lt) (grown_below (grown_trans (grown_trans Hg4.out Hg5.out) Hg6.out) (Hb8.out.mono (Nat.le_trans Hg4.out.size (Nat.le_trans Hg5.out.size Hg6.out.size)))) (heap_kept Hb8.out (heap_lt (kept_block Hg6.out Hcw.out (kept_block Hg5.out Hcw.out Hz4.out))) (kept_block Hg6.out Hcw.out (kept_block Hg5.out Hcw.out Hz4.out))))
          go_wp2_with fail
          go_roundg (4 - (j + 1))
          case measure => omega
          case rel => exact ⟨j + 1, hj4, rfl, by go_num, Hnext⟩
         exact AllReady.nil
        exact AllReady.nil
       exact AllReady.nil
      refine AllReady.cons rfl (fun K hK => ?_) ?_
      ·go_simp
       go_at_call 52
       refine (HTd.out _ Hc5.out).mono ?_
       rintro e w6 ⟨kid, kv, f6, F6, good, rfl, ho6, hn6, hc6, hg6⟩
       obtain ⟨k0, k1, k2, k3, k4, k5, rfl⟩ := six_of (ho6.1.trans (row_length _))
       have Hc6 := Lib.hid hc6
       have Hg6 := Lib.hid hg6
       have Ho6 := Lib.hid ho6
       have Hgood := Lib.hid good
       have Hm6 := Lib.hid (kept_block hg6 hcm Hm5.out)
       clear hc6 hg6 ho6 good
       obtain ⟨p0, p1, p2, p3, p4, p5⟩ := Row6.of Hm6.out
       (refine hK _ _ ?_; clear hK K)
       try simp only [Act.put, List.setIfInBounds_toArray, List.set_cons_zero, List.set_cons_succ, List.getElem_toArray, List.getElem_cons_zero, List.getElem_cons_succ]
       refine wpAny_ready (rs := [0]) (by kernel_rfl) (by simp) ?_
       refine AllReady.cons rfl (fun K hK => ?_) ?_
       ·go_simp
        (refine hK _ _ ?_; clear hK K)
        try simp only [Act.put, List.setIfInBounds_toArray, List.set_cons_zero, List.set_cons_succ, List.getElem_toArray, List.getElem_cons_zero, List.getElem_cons_succ]
        refine wpAny_ready (rs := [7]) (by kernel_rfl) (by simp) ?_
        refine AllReady.cons rfl (fun K hK => ?_) ?_
        ·go_simp
         go_at_call 99
         refine (spec_put (f := max f4 f6) t key kid [y0, y1, y2, y3, y4, y5] [k0, k1, k2, k3, k4, k5] w6 (((owns_drew (owns_drew Ho4.out Hg5.out (by omega)) Hg6.out (by omega)).lies).deeper (Nat.le_max_left _ _)) ((Ho6.out.lies).deeper (Nat.le_max_right _ _)) (Nat.le_trans Hkey.out.1 (show 28 ≤ maxLen by decide)) (Nat.le_trans ((Hmg.out.good hj).light (by omega)) (by omega)) (Nat.le_trans (Hgood.out.light (by omega)) (by omega))).mono ?_
         rintro e w8 ⟨⟨us8, F8, rfl, ho8, hn8⟩, hb8⟩
         obtain ⟨x0, x1, x2, x3, x4, x5, rfl⟩ := six_of (ho8.1.trans (row_length _))
         have Hm8 := Lib.hid (heap_kept hb8 (heap_lt Hm6.out) Hm6.out)
         have Ho8 := Lib.hid ho8
         have Hb8 := Lib.hid hb8
         have hone8 := ho8.one
         clear ho8 hb8
         (refine hK _ _ ?_; clear hK K)
         try simp only [Act.put, List.setIfInBounds_toArray, List.set_cons_zero, List.set_cons_succ, List.getElem_toArray, List.getElem_cons_zero, List.getElem_cons_succ]
         refine wpAny_take (i := 8) (v := ?_) rfl (by kernel_rfl) (by kernel_rfl) (by kernel_rfl) (fun _ _ _ h => h) (Or.inl ⟨by rfl, ?_⟩) ?_
         rotate_left
         ·intro w'
          go_simp
          try with_reducible rfl
         try simp only [Act.put, List.setIfInBounds_toArray, List.set_cons_zero, List.set_cons_succ, List.getElem_toArray, List.getElem_cons_zero, List.getElem_cons_succ]
         refine wpAny_take (i := 9) (v := ?_) rfl (by kernel_rfl) (by kernel_rfl) (by kernel_rfl) (fun _ _ _ h => h) (Or.inl ⟨by rfl, ?_⟩) ?_
         rotate_left
         ·intro w'
          go_simp
          try with_reducible rfl
         try simp only [Act.put, List.setIfInBounds_toArray, List.set_cons_zero, List.set_cons_succ, List.getElem_toArray, List.getElem_cons_zero, List.getElem_cons_succ]
         refine wpAny_take (i := 10) (v := ?_) rfl (by kernel_rfl) (by kernel_rfl) (by kernel_rfl) (fun _ _ _ h => h) (Or.inl ⟨by rfl, ?_⟩) ?_
         rotate_left
         ·intro w'
          go_simp
          try with_reducible rfl
         try simp only [Act.put, List.setIfInBounds_toArray, List.set_cons_zero, List.set_cons_succ, List.getElem_toArray, List.getElem_cons_zero, List.getElem_cons_succ]
         refine wpAny_ready (rs := [11]) (by kernel_rfl) (by simp) ?_
         refine AllReady.cons rfl (fun K hK => ?_) ?_
         ·refine step_store_row rfl 34 _ _ rfl w2.heap.size #[x0, x1, x2, x3, x4, x5] rfl rfl 34 _ Hm8.out tree_size' rfl hone8 ?_
          (refine hK _ _ ?_; clear hK K)
          try simp only [Act.put, List.getElem_toArray, List.getElem_cons_zero, List.getElem_cons_succ]
          refine wpAny_done (by kernel_rfl) ?_ _
          have Hnext := Lib.hid (MapSt.put Hcw.out hlo4 Hmg.out Hkey.out Hgood.out Hm8.out (Ho8.out.lower (heap_lt Hm6.out)) hn8 (Hc6.out.below Hb8.out Hc6.out.lt) (grown_below (grown_trans (grown_trans Hg4.out Hg5.out) Hg6.out) (Hb8.out.mono (Nat.le_trans Hg4.out.size (Nat.le_trans Hg5.out.size Hg6.out.size)))) (heap_kept Hb8.out (heap_lt (kept_block Hg6.out Hcw.out (kept_block Hg5.out Hcw.out Hz4.out))) (kept_block Hg6.out Hcw.out (kept_block Hg5.out Hcw.out Hz4.out))))
          go_wp2_with fail
          go_roundg (4 - (j + 1))
          case measure => omega
          case rel => exact ⟨j + 1, hj4, rfl, by go_num, Hnext⟩
         exact AllReady.nil
        exact AllReady.nil
       exact AllReady.nil
      exact AllReady.nil
     exact AllReady.nil
    ·obtain ⟨p0, p1, p2, p3, p4, p5⟩ := Row6.of hm4
     have Hgood := Lib.hid (mg.good hj)
     have Ho5 := Lib.hid (ho4.lower (B' := w.heap.size + 1) (by omega))
     have Hz9 := Lib.hid hz4
     have Hc5 := Lib.hid hst4c
     have Hg5 := Lib.hid hg4'
     have hone := ho4.one
     have hz9 := hz4
     clear hz4 hst4c hg4' ho4 mg hm4
     go_wp2_with (first | (refine wpList_store_row rfl 34 _ _ rfl w.heap.size #[y0, y1, y2, y3, y4, y5] rfl rfl 34 _ hz9 tree_size' rfl hone ?_) | fail)
     refine bodyPost_ret (v := .agg #[y0, y1, y2, y3, y4, y5]) ?_ rfl (got_set Hg5.out Hc5.out Hcw.out Hgood.out Ho5.out hn4)
     exact ret_tree rfl rfl rfl (setRow_at Hz9.out)
end Go.Proofs.YtegpcjkcejijpaaGreatDoor.tree
namespace Go.Proofs.YtegpcjkcejijpaaGreatDoor.tree
open Go.ChangeShapes Go.WideShapes Go.ChangeAt Go.RowKit draw
set_option linter.unusedVariables false

theorem tree_any (c : Nat) (A : Option Addr) (len cap : Nat) (z : Nat → Int) (w : World) (hc : Cur w c A len cap z) :
  Calls Tryz.prog 52 #[.pointer (some ⟨c, 0, none⟩), .int .i64 4] w (GotT 3 c A len cap z w) :=
 tree_step 2 4 (by decide) (by decide) (by decide) (fun c A len cap z w h =>
  tree_step 1 3 (by decide) (by decide) (by decide) (fun c A len cap z w h =>
   tree_step 0 2 (by decide) (by decide) (by decide) (fun c A len cap z w h => leaf_any c A len cap z w h) c A len cap z w h) c A len cap z w h) c A len cap z w hc
end Go.Proofs.YtegpcjkcejijpaaGreatDoor.tree
