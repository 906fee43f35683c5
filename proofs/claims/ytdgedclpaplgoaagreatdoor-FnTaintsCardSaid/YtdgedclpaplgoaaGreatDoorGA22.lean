/- Merged: DrawTo TolM TolS OksToleranceS InToleranceI LabelI. -/
import Derived.Test.YtdgedclpaplgoaaGreatDoorGA20
import Derived.Test.YtdgedclpaplgoaaGreatDoorGA3
import Derived.Test.YtdgedclpaplgoaaGreatDoorGA21
import Derived.Test.YtdgedclpaplgoaaGreatDoorGA1
import Derived.Test.YtdgedclpaplgoaaGreatDoorGA0
import Derived.Test.YtdgedclpaplgoaaGreatDoorGA5
import Derived.Laws.Cover1
import Derived.Test.YtdgedclpaplgoaaGreatDoorRows
import Derived.ProofKit
import Derived.Deep.WholeRow
import Derived.Test.YtdgedclpaplgoaaGreatDoorGA4
namespace Go.Proofs.YtdgedclpaplgoaaGreatDoor.draw
open Go.ChangeShapes Go.WideShapes Go.ChangeAt Go.RowKit ty
set_option linter.unusedVariables false

/-- What is known of a drawn toleration. -/
structure TinyO (m : Nat) (x : Tolerance) : Prop where
  key : x.key.size ≤ m
  value : x.value.size ≤ m
  lo : -1 ≤ x.effect
  hi : x.effect ≤ 4
theorem TinyO.wf {m : Nat} {x : Tolerance} (h : TinyO m x) (hm : m ≤ 1000) : x.Wf := by
  exact ⟨by have := h.key; unfold maxLen; omega, by have := h.value; unfold maxLen; omega, wf_intX h.lo (by have := h.hi; omega)⟩
theorem TryzsizeTo : (Tryz.prog.info? 46).map (·.size) = some 4 := by kernel_rfl
set_option maxRecDepth 1000000 in
set_option maxHeartbeats 16000000 in
theorem tol_any (c : Nat) (A : Option Addr) (len cap : Nat) (z : Nat → Int) (w : World) (hc : Cur w c A len cap z) :
    Calls Tryz.prog 126 #[.pointer (some ⟨c, 0, none⟩)] w (GotX Tolerance.cells (TinyO 5) c A len cap z w) := by
  have hclt := hc.lt
  obtain ⟨W, hW⟩ : ∃ W, W = w.alloc (.cells #[.string ⟨#[]⟩, .bool false, .string ⟨#[]⟩, .int .i64 0] 46) := ⟨_, rfl⟩
  have S0 := Lib.hid (show Bx0 w c A len cap z 46 [.string ⟨#[]⟩, .bool false, .string ⟨#[]⟩, .int .i64 0] W by rw [hW]; exact Bx0.new hc)
  have HW := Lib.hid hW
  have HC0 := Lib.hid (labKey_any c A len cap z W S0.out.cur)
  clear hc hW
  go_enter Tryz.func126, Tryz.ntmps126
  go_wp2_with fail
  rw [← HW.out]
  go_wp2_with fail
  refine HC0.out.mono ?_
  rintro e w1 ⟨k, hk, rfl, hc1, hg1⟩
  have S1 := Lib.hid (S0.out.turn hclt hc1 hg1)
  have HB := Lib.hid (below_any c A len cap z 3 w1 hc1 (by decide) (by decide))
  clear hc1 hg1 HC0 S0
  go_wp2_with fail
  refine HB.out.mono ?_
  rintro e w2 ⟨n, hn, rfl, hc2, hg2⟩
  have hb1 : w.heap.size < w2.heap.size := heap_lt (RowE.cur S1.out.zero hg2 (by omega))
  have S1 := Lib.hid ((S1.out.turn hclt hc2 hg2).box (us := [.string k, .bool false, .string ⟨#[]⟩, .int .i64 n]) hclt)
  obtain ⟨X, hX⟩ : ∃ X, X = w2.alloc (.cells #[.string k, .bool false, .string ⟨#[]⟩, .int .i64 n] 46) := ⟨_, rfl⟩
  have HX := Lib.hid hX
  have S2 := Lib.hid (show Bx1 w c A len cap z 46 [.string ⟨#[]⟩, .bool false, .string ⟨#[]⟩, .int .i64 0] w2.heap.size [.string k, .bool false, .string ⟨#[]⟩, .int .i64 n] X by rw [hX]; exact S1.out)
  have HO := Lib.hid (once_any c A len cap z 2 X S2.out.cur (by decide) (by decide))
  obtain ⟨b, hb⟩ : ∃ b, b = w2.heap.size := ⟨_, rfl⟩
  have Hb := Lib.hid hb
  rw [← hb] at hb1 S2
  clear hc2 hg2 HB S1 hX hb
  go_wp2_with fail
  rw [← HX.out, ← Hb.out]
  refine HO.out.mono ?_
  rintro e w3 ⟨q, rfl, hc3, hg3⟩
  have S3 := Lib.hid (S2.out.turn hclt hb1 hc3 hg3)
  clear hg3 HO S2
  cases q with
  | true =>
    have p1 := S3.out.mine.cell 1 _ rfl
    have f1 := RowE.frozen S3.out.mine 1
    have S4 := Lib.hid (S3.out.put hclt hb1 1 (.bool true))
    obtain ⟨w4, hw4⟩ : ∃ w4, w4 = w3.setCell ⟨b, 1, none⟩ (.bool true) := ⟨_, rfl⟩
    have Hw4 := Lib.hid hw4
    rw [← hw4] at S4
    have HV := Lib.hid (labVal_any c A len cap z w4 S4.out.cur)
    clear hc3 S3 hw4
    go_wp2_with fail
    rw [← Hw4.out]
    refine HV.out.mono ?_
    rintro e w5 ⟨y, hy, rfl, hc5, hg5⟩
    have S5 := Lib.hid (S4.out.turn hclt hb1 hc5 hg5)
    have p2 := S5.out.mine.cell 2 _ rfl
    have f2 := RowE.frozen S5.out.mine 2
    have S6 := Lib.hid (S5.out.put hclt hb1 2 (.string y))
    clear hc5 hg5 HV S4 S5
    have HR := Lib.hid (S6.out.done (enc := Tolerance.cells) (P := (TinyO 5)) (x := ⟨k, true, y, n⟩) hclt (⟨hk, by show y.size ≤ 5; omega, by show -1 ≤ n; omega, by show n ≤ 4; omega⟩))
    have h51 : (w5.setCell ⟨b, 2, none⟩ (.string y)).heap[w.heap.size]? = some (.cells #[.string ⟨#[]⟩, .bool false, .string ⟨#[]⟩, .int .i64 0] 46 (0, 0)) := S6.out.zero
    have H51 := Lib.hid h51
    have h52 : (w5.setCell ⟨b, 2, none⟩ (.string y)).heap[b]? = some (.cells #[.string k, .bool true, .string y, .int .i64 n] 46 (0, 0)) := S6.out.mine
    go_wp2_with (first | (refine wpList_load_row rfl 46 _ rfl b rfl 46 #[.string k, .bool true, .string y, .int .i64 n] (0, 0) _ h52 Tryz.underlying46 rfl TryzsizeTo ?_) | (refine wpList_store_row rfl 46 _ _ rfl w.heap.size #[.string k, .bool true, .string y, .int .i64 n] rfl rfl 46 _ h51 TryzsizeTo rfl (by simp [Value.oneCell']) ?_) | fail)
    refine bodyPost_ret (v := .agg #[.string k, .bool true, .string y, .int .i64 n]) ?_ rfl HR.out
    exact results_cell_row rfl _ _ w.heap.size _ _ (0, 0) _ rfl (setRow_at H51.out) Tryz.underlying46 rfl TryzsizeTo
  | false =>
    have HO := Lib.hid (once_any c A len cap z 3 w3 hc3 (by decide) (by decide))
    clear hc3
    go_wp2_with fail
    refine HO.out.mono ?_
    rintro e w4 ⟨q, rfl, hc4, hg4⟩
    have S4 := Lib.hid (S3.out.turn hclt hb1 hc4 hg4)
    clear hc4 hg4 HO S3
    cases q with
    | true =>
      have p0 := S4.out.mine.cell 0 _ rfl
      have f0 := RowE.frozen S4.out.mine 0
      have S5 := Lib.hid (S4.out.put hclt hb1 0 (.string ⟨#[]⟩))
      have HR := Lib.hid (S5.out.done (enc := Tolerance.cells) (P := (TinyO 5)) (x := ⟨⟨#[]⟩, false, ⟨#[]⟩, n⟩) hclt (⟨by show (⟨#[]⟩ : ByteArray).size ≤ 5; decide, by show (⟨#[]⟩ : ByteArray).size ≤ 5; decide, by show -1 ≤ n; omega, by show n ≤ 4; omega⟩))
      have h51 : (w4.setCell ⟨b, 0, none⟩ (.string ⟨#[]⟩)).heap[w.heap.size]? = some (.cells #[.string ⟨#[]⟩, .bool false, .string ⟨#[]⟩, .int .i64 0] 46 (0, 0)) := S5.out.zero
      have H51 := Lib.hid h51
      have h52 : (w4.setCell ⟨b, 0, none⟩ (.string ⟨#[]⟩)).heap[b]? = some (.cells #[.string ⟨#[]⟩, .bool false, .string ⟨#[]⟩, .int .i64 n] 46 (0, 0)) := S5.out.mine
      go_wp2_with (first | (refine wpList_load_row rfl 46 _ rfl b rfl 46 #[.string ⟨#[]⟩, .bool false, .string ⟨#[]⟩, .int .i64 n] (0, 0) _ h52 Tryz.underlying46 rfl TryzsizeTo ?_) | (refine wpList_store_row rfl 46 _ _ rfl w.heap.size #[.string ⟨#[]⟩, .bool false, .string ⟨#[]⟩, .int .i64 n] rfl rfl 46 _ h51 TryzsizeTo rfl (by simp [Value.oneCell']) ?_) | fail)
      refine bodyPost_ret (v := .agg #[.string ⟨#[]⟩, .bool false, .string ⟨#[]⟩, .int .i64 n]) ?_ rfl HR.out
      exact results_cell_row rfl _ _ w.heap.size _ _ (0, 0) _ rfl (setRow_at H51.out) Tryz.underlying46 rfl TryzsizeTo
    | false =>
      have HR := Lib.hid (S4.out.done (enc := Tolerance.cells) (P := (TinyO 5)) (x := ⟨k, false, ⟨#[]⟩, n⟩) hclt (⟨hk, by show (⟨#[]⟩ : ByteArray).size ≤ 5; decide, by show -1 ≤ n; omega, by show n ≤ 4; omega⟩))
      have h51 : (w4).heap[w.heap.size]? = some (.cells #[.string ⟨#[]⟩, .bool false, .string ⟨#[]⟩, .int .i64 0] 46 (0, 0)) := S4.out.zero
      have H51 := Lib.hid h51
      have h52 : (w4).heap[b]? = some (.cells #[.string k, .bool false, .string ⟨#[]⟩, .int .i64 n] 46 (0, 0)) := S4.out.mine
      go_wp2_with (first | (refine wpList_load_row rfl 46 _ rfl b rfl 46 #[.string k, .bool false, .string ⟨#[]⟩, .int .i64 n] (0, 0) _ h52 Tryz.underlying46 rfl TryzsizeTo ?_) | (refine wpList_store_row rfl 46 _ _ rfl w.heap.size #[.string k, .bool false, .string ⟨#[]⟩, .int .i64 n] rfl rfl 46 _ h51 TryzsizeTo rfl (by simp [Value.oneCell']) ?_) | fail)
      refine bodyPost_ret (v := .agg #[.string k, .bool false, .string ⟨#[]⟩, .int .i64 n]) ?_ rfl HR.out
      exact results_cell_row rfl _ _ w.heap.size _ _ (0, 0) _ rfl (setRow_at H51.out) Tryz.underlying46 rfl TryzsizeTo
set_option maxRecDepth 1000000 in
set_option maxHeartbeats 16000000 in
theorem anyTol_any (c : Nat) (A : Option Addr) (len cap : Nat) (z : Nat → Int) (w : World) (hc : Cur w c A len cap z) :
    Calls Tryz.prog 96 #[.pointer (some ⟨c, 0, none⟩)] w (GotX Tolerance.cells (TinyO 5) c A len cap z w) := by
  have hclt := hc.lt
  obtain ⟨W, hW⟩ : ∃ W, W = w.alloc (.cells #[.string ⟨#[]⟩, .bool false, .string ⟨#[]⟩, .int .i64 0] 46) := ⟨_, rfl⟩
  have S0 := Lib.hid (show Bx0 w c A len cap z 46 [.string ⟨#[]⟩, .bool false, .string ⟨#[]⟩, .int .i64 0] W by rw [hW]; exact Bx0.new hc)
  have HW := Lib.hid hW
  have HC0 := Lib.hid (tol_any c A len cap z W S0.out.cur)
  clear hc hW
  go_enter Tryz.func96, Tryz.ntmps96
  go_wp2_with fail
  rw [← HW.out]
  go_wp2_with fail
  refine HC0.out.mono ?_
  rintro e w1 ⟨t, ht, rfl, hc1, hg1⟩
  have hb1 : w.heap.size < w1.heap.size := heap_lt (RowE.cur S0.out.zero hg1 (by omega))
  have S1 := Lib.hid ((S0.out.turn hclt hc1 hg1).box (us := [.string t.key, .bool t.equal, .string t.value, .int .i64 t.effect]) hclt)
  obtain ⟨X, hX⟩ : ∃ X, X = w1.alloc (.cells #[.string t.key, .bool t.equal, .string t.value, .int .i64 t.effect] 46) := ⟨_, rfl⟩
  have HX := Lib.hid hX
  have S2 := Lib.hid (show Bx1 w c A len cap z 46 [.string ⟨#[]⟩, .bool false, .string ⟨#[]⟩, .int .i64 0] w1.heap.size [.string t.key, .bool t.equal, .string t.value, .int .i64 t.effect] X by rw [hX]; exact S1.out)
  have HB := Lib.hid (below_any c A len cap z 10 X S2.out.cur (by decide) (by decide))
  obtain ⟨b, hb⟩ : ∃ b, b = w1.heap.size := ⟨_, rfl⟩
  have Hb := Lib.hid hb
  rw [← hb] at hb1 S2
  have ht1 := ht.key
  have ht2 := ht.value
  have ht3 := ht.lo
  have ht4 := ht.hi
  clear hc1 hg1 HC0 S0 S1 hX hb ht
  obtain ⟨k, q, y, n⟩ := t
  simp only [Tolerance.cells] at *
  go_wp2_with fail
  rw [← HX.out, ← Hb.out]
  refine HB.out.mono ?_
  rintro e w2 ⟨x, hx, rfl, hc2, hg2⟩
  have S3 := Lib.hid (S2.out.turn hclt hb1 hc2 hg2)
  clear hg2 HB S2
  by_cases x0 : x = 0
  · subst x0
    have HB := Lib.hid (below_any c A len cap z 5 w2 hc2 (by decide) (by decide))
    clear hc2
    go_wp2_with fail
    refine HB.out.mono ?_
    rintro e w3 ⟨m, hm, rfl, hc3, hg3⟩
    have S4 := Lib.hid (S3.out.turn hclt hb1 hc3 hg3)
    have hwm : IntKind.i64.wrap (m - 1) = m - 1 := IntWalk.i64_in _ (by omega)
    obtain ⟨n2, hn2⟩ : ∃ n, m - 1 = n := ⟨_, rfl⟩
    rw [hn2] at hwm
    have hm1 : -1 ≤ n2 := by omega
    have hm2 : n2 ≤ 3 := by omega
    have p3 := S4.out.mine.cell 3 _ rfl
    have f3 := RowE.frozen S4.out.mine 3
    have S5 := Lib.hid (S4.out.put hclt hb1 3 (.int .i64 n2))
    clear hc3 hg3 HB S3 hm
    have HR := Lib.hid (S5.out.done (enc := Tolerance.cells) (P := (TinyO 5)) (x := ⟨k, q, y, n2⟩) hclt (⟨ht1, ht2, hm1, by show n2 ≤ 4; omega⟩))
    have h51 : (w3.setCell ⟨b, 3, none⟩ (.int .i64 n2)).heap[w.heap.size]? = some (.cells #[.string ⟨#[]⟩, .bool false, .string ⟨#[]⟩, .int .i64 0] 46 (0, 0)) := S5.out.zero
    have H51 := Lib.hid h51
    have h52 : (w3.setCell ⟨b, 3, none⟩ (.int .i64 n2)).heap[b]? = some (.cells #[.string k, .bool q, .string y, .int .i64 n2] 46 (0, 0)) := S5.out.mine
    go_wp2_with (first | (refine wpList_load_row rfl 46 _ rfl b rfl 46 #[.string k, .bool q, .string y, .int .i64 n2] (0, 0) _ h52 Tryz.underlying46 rfl TryzsizeTo ?_) | (refine wpList_store_row rfl 46 _ _ rfl w.heap.size #[.string k, .bool q, .string y, .int .i64 n2] rfl rfl 46 _ h51 TryzsizeTo rfl (by simp [Value.oneCell']) ?_) | fail)
    refine bodyPost_ret (v := .agg #[.string k, .bool q, .string y, .int .i64 n2]) ?_ rfl HR.out
    exact results_cell_row rfl _ _ w.heap.size _ _ (0, 0) _ rfl (setRow_at H51.out) Tryz.underlying46 rfl TryzsizeTo
  have x0' : (x == 0) = false := beq_eq_false_iff_ne.2 x0
  by_cases x1 : x = 1
  · subst x1
    have p1 := S3.out.mine.cell 1 _ rfl
    have f1 := RowE.frozen S3.out.mine 1
    have S5 := Lib.hid (S3.out.put hclt hb1 1 (.bool (!q)))
    clear hc2 hx x0
    have HR := Lib.hid (S5.out.done (enc := Tolerance.cells) (P := (TinyO 5)) (x := ⟨k, !q, y, n⟩) hclt (⟨ht1, ht2, ht3, ht4⟩))
    have h51 : (w2.setCell ⟨b, 1, none⟩ (.bool (!q))).heap[w.heap.size]? = some (.cells #[.string ⟨#[]⟩, .bool false, .string ⟨#[]⟩, .int .i64 0] 46 (0, 0)) := S5.out.zero
    have H51 := Lib.hid h51
    have h52 : (w2.setCell ⟨b, 1, none⟩ (.bool (!q))).heap[b]? = some (.cells #[.string k, .bool (!q), .string y, .int .i64 n] 46 (0, 0)) := S5.out.mine
    go_wp2_with (first | (refine wpList_load_row rfl 46 _ rfl b rfl 46 #[.string k, .bool (!q), .string y, .int .i64 n] (0, 0) _ h52 Tryz.underlying46 rfl TryzsizeTo ?_) | (refine wpList_store_row rfl 46 _ _ rfl w.heap.size #[.string k, .bool (!q), .string y, .int .i64 n] rfl rfl 46 _ h51 TryzsizeTo rfl (by simp [Value.oneCell']) ?_) | fail)
    refine bodyPost_ret (v := .agg #[.string k, .bool (!q), .string y, .int .i64 n]) ?_ rfl HR.out
    exact results_cell_row rfl _ _ w.heap.size _ _ (0, 0) _ rfl (setRow_at H51.out) Tryz.underlying46 rfl TryzsizeTo
  have x1' : (x == 1) = false := beq_eq_false_iff_ne.2 x1
  by_cases x2 : x = 2
  · subst x2
    have p2 := S3.out.mine.cell 2 _ rfl
    have f2 := RowE.frozen S3.out.mine 2
    have S5 := Lib.hid (S3.out.put hclt hb1 2 (.string ⟨#[97, 47, 98]⟩))
    clear hc2 hx x0 x1
    have HR := Lib.hid (S5.out.done (enc := Tolerance.cells) (P := (TinyO 5)) (x := ⟨k, q, ⟨#[97, 47, 98]⟩, n⟩) hclt (⟨ht1, by show (⟨#[97, 47, 98]⟩ : ByteArray).size ≤ 5; decide, ht3, ht4⟩))
    have h51 : (w2.setCell ⟨b, 2, none⟩ (.string ⟨#[97, 47, 98]⟩)).heap[w.heap.size]? = some (.cells #[.string ⟨#[]⟩, .bool false, .string ⟨#[]⟩, .int .i64 0] 46 (0, 0)) := S5.out.zero
    have H51 := Lib.hid h51
    have h52 : (w2.setCell ⟨b, 2, none⟩ (.string ⟨#[97, 47, 98]⟩)).heap[b]? = some (.cells #[.string k, .bool q, .string ⟨#[97, 47, 98]⟩, .int .i64 n] 46 (0, 0)) := S5.out.mine
    go_wp2_with (first | (refine wpList_load_row rfl 46 _ rfl b rfl 46 #[.string k, .bool q, .string ⟨#[97, 47, 98]⟩, .int .i64 n] (0, 0) _ h52 Tryz.underlying46 rfl TryzsizeTo ?_) | (refine wpList_store_row rfl 46 _ _ rfl w.heap.size #[.string k, .bool q, .string ⟨#[97, 47, 98]⟩, .int .i64 n] rfl rfl 46 _ h51 TryzsizeTo rfl (by simp [Value.oneCell']) ?_) | fail)
    refine bodyPost_ret (v := .agg #[.string k, .bool q, .string ⟨#[97, 47, 98]⟩, .int .i64 n]) ?_ rfl HR.out
    exact results_cell_row rfl _ _ w.heap.size _ _ (0, 0) _ rfl (setRow_at H51.out) Tryz.underlying46 rfl TryzsizeTo
  have x2' : (x == 2) = false := beq_eq_false_iff_ne.2 x2
  clear hc2 hx x0 x1 x2
  have HR := Lib.hid (S3.out.done (enc := Tolerance.cells) (P := (TinyO 5)) (x := ⟨k, q, y, n⟩) hclt (⟨ht1, ht2, ht3, ht4⟩))
  have h51 : (w2).heap[w.heap.size]? = some (.cells #[.string ⟨#[]⟩, .bool false, .string ⟨#[]⟩, .int .i64 0] 46 (0, 0)) := S3.out.zero
  have H51 := Lib.hid h51
  have h52 : (w2).heap[b]? = some (.cells #[.string k, .bool q, .string y, .int .i64 n] 46 (0, 0)) := S3.out.mine
  go_wp2_with (first | (refine wpList_load_row rfl 46 _ rfl b rfl 46 #[.string k, .bool q, .string y, .int .i64 n] (0, 0) _ h52 Tryz.underlying46 rfl TryzsizeTo ?_) | (refine wpList_store_row rfl 46 _ _ rfl w.heap.size #[.string k, .bool q, .string y, .int .i64 n] rfl rfl 46 _ h51 TryzsizeTo rfl (by simp [Value.oneCell']) ?_) | fail)
  refine bodyPost_ret (v := .agg #[.string k, .bool q, .string y, .int .i64 n]) ?_ rfl HR.out
  exact results_cell_row rfl _ _ w.heap.size _ _ (0, 0) _ rfl (setRow_at H51.out) Tryz.underlying46 rfl TryzsizeTo
end Go.Proofs.YtdgedclpaplgoaaGreatDoor.draw
namespace Go.Proofs.YtdgedclpaplgoaaGreatDoor.taint
open Go Go.RowKit ty lab
set_option linter.unusedVariables false

/-- What is asked of the key and the value. -/
def TolK (k : ByteArray) (q : Bool) (a : ByteArray) : Prop := (q = true ∧ KeyP k ∧ ValP a) ∨ (q = false ∧ a.size = 0 ∧ (k.size = 0 ∨ KeyP k))
theorem tol_iff (x : Tolerance) : TolP x ↔ (0 ≤ x.effect ∧ x.effect ≤ 2) ∧ TolK x.key x.equal x.value := by
  constructor
  · intro h
    refine ⟨⟨h.lo, h.hi⟩, ?_⟩
    cases hq : x.equal with
    | true => exact .inl ⟨rfl, h.eq hq⟩
    | false => exact .inr ⟨rfl, h.free hq⟩
  · rintro ⟨⟨h1, h2⟩, h⟩
    refine ⟨h1, h2, fun hq => ?_, fun hq => ?_⟩
    · rcases h with ⟨h, _⟩ | ⟨_, h⟩
      · rw [hq] at h; cases h
      · exact h
    · rcases h with ⟨_, h⟩ | ⟨h, _⟩
      · exact h
      · rw [hq] at h; cases h
theorem empty_is {a : ByteArray} (h : a.size = 0) : a = ⟨#[]⟩ := by
  apply ByteArray.ext
  exact Array.eq_empty_of_size_eq_zero h
theorem empty_yes {a : ByteArray} (h : a.size = 0) : (a.toList == []) = true := by
  have : a.toList.length = 0 := by rw [ByteArray.toList_eq, Array.length_toList]; exact h
  rw [List.eq_nil_of_length_eq_zero this]; rfl
theorem empty_no {a : ByteArray} (h : ¬ a.size = 0) : (a.toList == []) = false := by
  rw [beq_eq_false_iff_ne]
  intro e
  apply h
  have h2 : a.toList.length = a.size := by rw [ByteArray.toList_eq, Array.length_toList]; rfl
  rw [← h2, e]; rfl
theorem val_empty : ValP ⟨#[]⟩ := .inl rfl
theorem tolK_eq (k a : ByteArray) : yes (TolK k true a) = (yes (KeyP k) && yes (ValP a)) := by
  by_cases h1 : KeyP k
  · by_cases h2 : ValP a
    · rw [yes_t h1, yes_t h2, yes_t (.inl ⟨rfl, h1, h2⟩)]; rfl
    · rw [yes_t h1, yes_f h2, yes_f]
      · rfl
      · rintro (⟨_, h⟩ | ⟨h, _⟩)
        · exact h2 h.2
        · cases h
  · rw [yes_f h1, yes_f]
    · rfl
    · rintro (⟨_, h⟩ | ⟨h, _⟩)
      · exact h1 h.1
      · cases h
end Go.Proofs.YtdgedclpaplgoaaGreatDoor.taint
namespace Go.Proofs.YtdgedclpaplgoaaGreatDoor.taint
open Go.ChangeShapes Go.WideShapes Go.ChangeAt Go.RowKit ty lab need
set_option linter.unusedVariables false

set_option maxRecDepth 100000 in
set_option maxHeartbeats 8000000 in
theorem spec_tol (x : Tolerance) (w : World) (hz : x.wt ≤ 1048576) :
    Calls Tryz.prog 63 #[.agg #[.string x.key, .bool x.equal, .string x.value, .int .i64 x.effect]] w fun e w' => e = .returned (.bool (yes (TolP x))) ∧ Below w.heap.size w w' := by
  unfold Tolerance.wt at hz
  obtain ⟨k, q, a, n⟩ := x
  simp only at *
  rw [show yes (TolP ⟨k, q, a, n⟩) = yes ((0 ≤ n ∧ n ≤ 2) ∧ TolK k q a) from by congr 1; exact propext (tol_iff ⟨k, q, a, n⟩)]
  have HK := Lib.hid (fun w' => spec_key k w' (by omega))
  have HV := Lib.hid (fun w' => spec_val a w' (by omega))
  have HI := Lib.hid (fun w' => in_call n w' 0 2)
  have Hb0 := Lib.hid (fun (o : Obj) n => below_drewN ((Below.refl w.heap.size w).alloc (Nat.le_refl _) o) n)
  clear hz
  by_cases hn : 0 ≤ n ∧ n ≤ 2
  case neg =>
    have Hf := Lib.hid (yes_f (p := (0 ≤ n ∧ n ≤ 2) ∧ TolK k q a) (fun h => hn h.1))
    rw [yes_f hn] at HI
    clear hn HK HV
    go_enter Tryz.func63, Tryz.ntmps63
    go_wp2_with fail
    refine (HI.out _).mono ?_
    rintro e w1 ⟨rfl, rfl⟩
    go_wp2_with fail
    go_ret
    exact ⟨by rw [Hf.out]; rfl, Hb0.out _ 0⟩
  rw [yes_t hn] at HI
  have HT : Hid (yes ((0 ≤ n ∧ n ≤ 2) ∧ TolK k q a) = yes (TolK k q a)) := by
    unfold Hid
    congr 1
    exact propext ⟨fun h => h.2, fun h => ⟨hn, h⟩⟩
  rw [HT.out]
  clear HT hn
  cases q with
  | true =>
    rw [tolK_eq]
    generalize yes (ValP a) = b2 at HV ⊢
    by_cases hk : KeyP k
    · rw [yes_t hk] at HK ⊢
      clear hk
      go_enter Tryz.func63, Tryz.ntmps63
      go_wp2_with fail
      refine (HI.out _).mono ?_
      rintro e w1 ⟨rfl, rfl⟩
      go_wp2_with fail
      refine (HK.out _).mono ?_
      rintro e w1 ⟨rfl, n1, rfl⟩
      go_wp2_with fail
      refine (HV.out _).mono ?_
      rintro e w1 ⟨rfl, n2, rfl⟩
      go_wp2_with fail
      go_ret
      exact ⟨by cases b2 <;> rfl, by simpa using Hb0.out _ _⟩
    · rw [yes_f hk] at HK ⊢
      clear hk HV
      go_enter Tryz.func63, Tryz.ntmps63
      go_wp2_with fail
      refine (HI.out _).mono ?_
      rintro e w1 ⟨rfl, rfl⟩
      go_wp2_with fail
      refine (HK.out _).mono ?_
      rintro e w1 ⟨rfl, n1, rfl⟩
      go_wp2_with fail
      go_ret
      exact ⟨by cases b2 <;> rfl, Hb0.out _ _⟩
  | false =>
    clear HV
    by_cases ha : a.size = 0
    case neg =>
      have Hf := Lib.hid (yes_f (p := TolK k false a) (fun h => by
        rcases h with ⟨h, _⟩ | ⟨_, h, _⟩
        · cases h
        · exact ha h))
      have e1 := empty_no ha
      clear ha HK
      go_enter Tryz.func63, Tryz.ntmps63
      go_wp2_with fail
      refine (HI.out _).mono ?_
      rintro e w1 ⟨rfl, rfl⟩
      go_wp2_with fail
      go_ret
      exact ⟨by rw [Hf.out]; rfl, Hb0.out _ 0⟩
    have e1 := empty_yes ha
    by_cases hk : k.size = 0
    · have Hf := Lib.hid (yes_t (p := TolK k false a) (.inr ⟨rfl, ha, .inl hk⟩))
      have e2 := empty_yes hk
      clear ha hk HK
      go_enter Tryz.func63, Tryz.ntmps63
      go_wp2_with fail
      refine (HI.out _).mono ?_
      rintro e w1 ⟨rfl, rfl⟩
      go_wp2_with fail
      go_ret
      exact ⟨by rw [Hf.out]; rfl, Hb0.out _ 0⟩
    have e2 := empty_no hk
    have Hf : Hid (yes (TolK k false a) = yes (KeyP k)) := by
      unfold Hid
      congr 1
      refine propext ⟨fun h => ?_, fun h => .inr ⟨rfl, ha, .inr h⟩⟩
      rcases h with ⟨h, _⟩ | ⟨_, _, h⟩
      · cases h
      · exact h.resolve_left hk
    rw [Hf.out]
    clear Hf ha hk
    generalize yes (KeyP k) = R at HK ⊢
    go_enter Tryz.func63, Tryz.ntmps63
    go_wp2_with fail
    refine (HI.out _).mono ?_
    rintro e w1 ⟨rfl, rfl⟩
    go_wp2_with fail
    refine (HK.out _).mono ?_
    rintro e w1 ⟨rfl, n1, rfl⟩
    go_wp2_with fail
    go_ret
    exact ⟨rfl, Hb0.out _ _⟩
theorem befT_key {a b : Tolerance} (h : ¬ a.key = b.key) : befT a b = lessB a.key b.key := by unfold befT; rw [if_neg h]
theorem befT_eq {a b : Tolerance} (h : a.key = b.key) (h2 : ¬ a.equal = b.equal) : befT a b = b.equal := by unfold befT befE; rw [if_pos h, if_neg h2]
theorem befT_val {a b : Tolerance} (h : a.key = b.key) (h2 : a.equal = b.equal) (h3 : ¬ a.value = b.value) : befT a b = lessB a.value b.value := by unfold befT befE befV; rw [if_pos h, if_pos h2, if_neg h3]
theorem befT_eff {a b : Tolerance} (h : a.key = b.key) (h2 : a.equal = b.equal) (h3 : a.value = b.value) : befT a b = decide (a.effect < b.effect) := by unfold befT befE befV; rw [if_pos h, if_pos h2, if_pos h3]
set_option maxRecDepth 100000 in
set_option maxHeartbeats 16000000 in
theorem spec_befT (x y : Tolerance) (w : World) :
    Calls Tryz.prog 57 #[.agg #[.string x.key, .bool x.equal, .string x.value, .int .i64 x.effect], .agg #[.string y.key, .bool y.equal, .string y.value, .int .i64 y.effect]] w fun e w' => e = .returned (.bool (befT x y)) ∧ Below w.heap.size w w' := by
  obtain ⟨R, hR⟩ : ∃ R, befT x y = R := ⟨_, rfl⟩
  rw [hR]
  have Hk : Hid (¬ x.key = y.key → R = lessB x.key y.key) := fun h => by rw [← hR]; exact befT_key h
  have Hq : Hid (x.key = y.key → ¬ x.equal = y.equal → R = y.equal) := fun h h2 => by rw [← hR]; exact befT_eq h h2
  have Hv : Hid (x.key = y.key → x.equal = y.equal → ¬ x.value = y.value → R = lessB x.value y.value) := fun h h2 h3 => by rw [← hR]; exact befT_val h h2 h3
  have He : Hid (x.key = y.key → x.equal = y.equal → x.value = y.value → R = decide (x.effect < y.effect)) := fun h h2 h3 => by rw [← hR]; exact befT_eff h h2 h3
  obtain ⟨k1, q1, v1, n1⟩ := x
  obtain ⟨k2, q2, v2, n2⟩ := y
  simp only at *
  have Hb := Lib.hid (fun a b : Obj => ((Below.refl w.heap.size w).alloc (Nat.le_refl _) a).alloc (by simp) b)
  clear hR
  by_cases hk : k1 = k2
  case neg =>
    have Hf := Lib.hid (Hk.out hk)
    have hs := same_no hk
    unfold lessB at Hf
    clear hk Hk Hv He Hq
    go_enter Tryz.func57, Tryz.ntmps57
    go_wp2_with fail
    go_ret
    exact ⟨by rw [Hf.out]; rfl, Hb.out _ _⟩
  have hs := same_yes hk
  by_cases hq : q1 = q2
  case neg =>
    have Hf := Lib.hid (Hq.out hk hq)
    clear hk Hk Hv He Hq
    cases q1 <;> cases q2 <;> first
      | exact absurd rfl hq
      | (clear hq
         go_enter Tryz.func57, Tryz.ntmps57
         go_wp2_with fail
         go_ret
         exact ⟨by rw [Hf.out]; rfl, Hb.out _ _⟩)
  subst hq
  clear Hq Hk
  cases q1 <;>
  · by_cases hv : v1 = v2
    case neg =>
      have Hf := Lib.hid (Hv.out hk rfl hv)
      have ht := same_no hv
      unfold lessB at Hf
      clear hk hv Hv He
      go_enter Tryz.func57, Tryz.ntmps57
      go_wp2_with fail
      go_ret
      exact ⟨by rw [Hf.out]; rfl, Hb.out _ _⟩
    have ht := same_yes hv
    have Hf := Lib.hid (He.out hk rfl hv)
    clear hk hv Hv He
    go_enter Tryz.func57, Tryz.ntmps57
    go_wp2_with fail
    go_ret
    exact ⟨by rw [Hf.out]; rfl, Hb.out _ _⟩
end Go.Proofs.YtdgedclpaplgoaaGreatDoor.taint
namespace Go.Proofs.YtdgedclpaplgoaaGreatDoor.taint
open Go.ChangeShapes Go.WideShapes Go.ChangeAt Go.RowKit ty lab dedup need
set_option linter.unusedVariables false

set_option maxRecDepth 100000 in
set_option maxHeartbeats 16000000 in
theorem spec_oksTolerance (l : List Tolerance) (f : Nat) (v : Value) (w : World) (h : Lies w f v (.sl 4 l.length (l.flatMap Tolerance.row))) (hz : wsum Tolerance.wt l ≤ 1048576) :
    Calls Tryz.prog 24 #[v] w fun e w' => e = .returned (.bool (yes (TolsP l))) ∧ Below w.heap.size w w' := by
  obtain ⟨A, c, rfl, hc1, hc2, f', rfl, hk⟩ := els_of Tolerance.row_length h
  unfold maxLen at hc2
  obtain ⟨R, hR⟩ : ∃ R, yes (TolsP l) = R := ⟨_, rfl⟩
  rw [hR]
  have Hno : Hid (¬ TolsP l → R = false) := fun h => by rw [← hR]; exact yes_f h
  have Hyes : Hid (TolsP l → R = true) := fun h => by rw [← hR]; exact yes_t h
  have Hk := Lib.hid hk
  have Hz := Lib.hid (fun j (hj : j < l.length) => Nat.le_trans (wsum_mem Tolerance.wt hj) hz)
  clear h hk hR hz
  by_cases h4 : 4 < l.length
  · have Hf := Lib.hid (Hno.out fun h2 => by have := h2.1; omega)
    go_enter Tryz.func24, Tryz.ntmps24
    go_wp2_with fail
    go_ret
    exact ⟨by rw [Hf.out]; rfl, Below.refl _ _⟩
  have Hmk := Lib.hid (fun h3 => Hyes.out ⟨by omega, h3⟩)
  have Hng := Lib.hid (fun (h3 : ¬ GoodL TolP befT l l.length) => Hno.out (fun h => h3 h.2))
  clear Hno Hyes
  go_enter Tryz.func24, Tryz.ntmps24
  go_wp2_with fail
  go_loopw [3] (fun i wr => ∃ j : Nat, j ≤ l.length ∧ i = .int .i64 j ∧ Hid (GoodL TolP befT l j) ∧ Below w.heap.size w wr) (fun i _ => l.length - (intOf i).toNat)
  case atStart => exact ⟨0, Nat.zero_le _, rfl, fun i hi hj => by omega, Below.refl _ _⟩
  case round =>
    obtain ⟨j, hj, rfl, hgood, hbel⟩ := hrel
    have Hbel := Lib.hid hbel
    by_cases hlt : j < l.length
    · obtain ⟨g, o, rfl, hg, us, hus, hc, hls⟩ := (Hk.out.below hbel).get hlt
      obtain ⟨rfl, hwf⟩ := Tolerance.opened hls
      have q0 : ∀ p : BelowBy wr, p.v.cell? ⟨g, o + j * 4, none⟩ = some (.string l[j].key) := fun p => p.cell hg (hc 0 _ rfl)
      have q1 : ∀ p : BelowBy wr, p.v.cell? ⟨g, o + j * 4 + 1, none⟩ = some (.bool l[j].equal) := fun p => p.cell hg (hc 1 _ rfl)
      have q2 : ∀ p : BelowBy wr, p.v.cell? ⟨g, o + j * 4 + 2, none⟩ = some (.string l[j].value) := fun p => p.cell hg (hc 2 _ rfl)
      have q3 : ∀ p : BelowBy wr, p.v.cell? ⟨g, o + j * 4 + 3, none⟩ = some (.int .i64 l[j].effect) := fun p => p.cell hg (hc 3 _ rfl)
      have HN := Lib.hid (fun p : BelowBy wr => spec_tol l[j] p.v (Hz.out j hlt))
      have HW2 : Hid (∀ p : BelowBy wr, Below w.heap.size w p.v) := fun p => below_link hbel p.h hbel.size
      have hj0 : (0 : Int) ≤ (j : Int) := by omega
      have hjn : (j : Int) < (l.length : Int) := by omega
      by_cases hP : TolP l[j]
      case neg =>
        have Hf := Lib.hid (Hng.out fun h2 => hP (h2 j hlt hlt).1)
        rw [yes_f hP] at HN
        clear hP Hng Hmk hgood hls hus hc hg hwf Hk hbel
        generalize l[j] = x at *
        go_wp2_with fail
        refine wp_region_quiet_below (by kernel_rfl) (by kernel_rfl) ?_
        repeat (refine @wpQuiet_step _ _ _ _ _ _ _ ?_; intro K hK; go_simp; first | (refine hK _ ?_; clear hK K) | (apply Exists.intro; refine ⟨fun _ => ?_, hK _ ?_⟩; (first | (go_at_call 63; exact Calls.below_of (HN.out _))); clear hK K))
        refine wpQuiet_nil ?_
        intro _ hw'
        obtain ⟨p, rfl⟩ := hw'
        go_wp2_with fail
        go_ret
        exact ⟨by rw [Hf.out]; rfl, HW2.out p⟩
      rw [yes_t hP] at HN
      by_cases hz : j = 0
      · have Hg := Lib.hid (goodL_next hgood.out hlt hP (fun m hm => by omega))
        have hn0 : ¬ (0 : Int) < (j : Int) := by omega
        have hn1 : ¬ 0 < j := by omega
        clear hP Hng Hmk hgood hls hus hc hg hwf Hk hz hbel
        generalize l[j] = x at *
        go_wp2_with fail
        refine wp_region_quiet_below (by kernel_rfl) (by kernel_rfl) ?_
        repeat (refine @wpQuiet_step _ _ _ _ _ _ _ ?_; intro K hK; go_simp; first | (refine hK _ ?_; clear hK K) | (apply Exists.intro; refine ⟨fun _ => ?_, hK _ ?_⟩; (first | (go_at_call 63; exact Calls.below_of (HN.out _))); clear hK K))
        refine wpQuiet_nil ?_
        intro _ hw'
        obtain ⟨p, rfl⟩ := hw'
        go_wp2_with fail
        go_roundw
        case rel => exact ⟨j + 1, by omega, by go_num, Hg.out, HW2.out p⟩
        case measure => simp [intOf]; omega
      obtain ⟨m, hm⟩ : ∃ m, m + 1 = j := ⟨j - 1, by omega⟩
      have hml : m < l.length := by omega
      obtain ⟨g', o', hA3, hg2, us2, hus2, hc2', hls2⟩ := (Hk.out.below hbel).get hml
      injection hA3 with hA3
      injection hA3 with e1 e2
      subst e1 e2
      obtain ⟨rfl, _⟩ := Tolerance.opened hls2
      have HC := Lib.hid (fun p : BelowBy wr => spec_befT l[m] l[j] p.v)
      have R0 : ∀ p : BelowBy wr, p.v.cell? ⟨g, o + m * 4, none⟩ = some (.string l[m].key) := fun p => p.cell hg (hc2' 0 _ rfl)
      have R1 : ∀ p : BelowBy wr, p.v.cell? ⟨g, o + m * 4 + 1, none⟩ = some (.bool l[m].equal) := fun p => p.cell hg (hc2' 1 _ rfl)
      have R2 : ∀ p : BelowBy wr, p.v.cell? ⟨g, o + m * 4 + 2, none⟩ = some (.string l[m].value) := fun p => p.cell hg (hc2' 2 _ rfl)
      have R3 : ∀ p : BelowBy wr, p.v.cell? ⟨g, o + m * 4 + 3, none⟩ = some (.int .i64 l[m].effect) := fun p => p.cell hg (hc2' 3 _ rfl)
      have hmi : (j : Int) - 1 = (m : Int) := by omega
      have hwm : IntKind.i64.wrap (m : Int) = (m : Int) := IntWalk.i64_in _ (by omega)
      have hm0 : (0 : Int) ≤ (m : Int) := by omega
      have hm1 : (m : Int) < (l.length : Int) := by omega
      have hjp : (0 : Int) < (j : Int) := by omega
      have hjp1 : 0 < j := by omega
      cases hb : befT l[m] l[j] with
      | true =>
        have Hg := Lib.hid (goodL_next hgood.out hlt hP (fun m' hm' => by obtain rfl : m' = m := by omega
                                                                          exact hb))
        rw [hb] at HC
        clear hP Hng Hmk hgood hls hus hc hg hwf hls2 hus2 hc2' hg2 Hk hz hm hb hbel
        generalize l[j] = x at *
        generalize l[m] = y at *
        go_wp2_with fail
        refine wp_region_quiet_below (by kernel_rfl) (by kernel_rfl) ?_
        repeat (refine @wpQuiet_step _ _ _ _ _ _ _ ?_; intro K hK; go_simp; first | (refine hK _ ?_; clear hK K) | (apply Exists.intro; refine ⟨fun _ => ?_, hK _ ?_⟩; (first | (go_at_call 63; exact Calls.below_of (HN.out _)) | (go_at_call 57; exact Calls.below_of (HC.out _))); clear hK K))
        refine wpQuiet_nil ?_
        intro _ hw'
        obtain ⟨p, rfl⟩ := hw'
        go_wp2_with fail
        go_roundw
        case rel => exact ⟨j + 1, by omega, by go_num, Hg.out, HW2.out p⟩
        case measure => simp [intOf]; omega
      | false =>
        have Hf := Lib.hid (Hng.out fun h2 => by
          have := (h2 j hlt hlt).2 m hm
          rw [hb] at this; cases this)
        rw [hb] at HC
        clear hP Hng Hmk hgood hls hus hc hg hwf hls2 hus2 hc2' hg2 Hk hz hm hb hbel
        generalize l[j] = x at *
        generalize l[m] = y at *
        go_wp2_with fail
        refine wp_region_quiet_below (by kernel_rfl) (by kernel_rfl) ?_
        repeat (refine @wpQuiet_step _ _ _ _ _ _ _ ?_; intro K hK; go_simp; first | (refine hK _ ?_; clear hK K) | (apply Exists.intro; refine ⟨fun _ => ?_, hK _ ?_⟩; (first | (go_at_call 63; exact Calls.below_of (HN.out _)) | (go_at_call 57; exact Calls.below_of (HC.out _))); clear hK K))
        refine wpQuiet_nil ?_
        intro _ hw'
        obtain ⟨p, rfl⟩ := hw'
        go_wp2_with fail
        go_ret
        exact ⟨by rw [Hf.out]; rfl, HW2.out p⟩
    · obtain rfl : j = l.length := by omega
      have Hf := Lib.hid (Hmk.out hgood.out)
      clear hgood hbel
      go_wp2_with fail
      go_ret
      exact ⟨by rw [Hf.out]; rfl, Hbel.out⟩
end Go.Proofs.YtdgedclpaplgoaaGreatDoor.taint
namespace Go.Proofs.YtdgedclpaplgoaaGreatDoor.taint
open Go Go.RowKit
theorem TryzinfITolerance : (Tryz.prog.info? 46).map (fun i => (i.zero, i.size, i.bytes)) = some (some (.agg #[.string ⟨#[]⟩, .bool false, .string ⟨#[]⟩, .int .i64 0]), 4, 48) := by kernel_rfl
end Go.Proofs.YtdgedclpaplgoaaGreatDoor.taint
namespace Go.Proofs.YtdgedclpaplgoaaGreatDoor.lab
open Go.ChangeShapes Go.WideShapes Go.ChangeAt Go.RowKit ty
set_option linter.unusedVariables false

theorem yes_and {p q : Prop} : yes (p ∧ q) = (yes p && yes q) := by
  by_cases hp : p
  · by_cases hq : q
    · rw [yes_t hp, yes_t hq, yes_t ⟨hp, hq⟩]; rfl
    · rw [yes_t hp, yes_f hq, yes_f fun h => hq h.2]; rfl
  · rw [yes_f hp, yes_f fun h => hp h.1]; rfl
set_option maxRecDepth 100000 in
set_option maxHeartbeats 4000000 in
theorem impl_label (x : Label) (w : World) (hw : x.Wf) :
    Calls Tryz.prog 133 #[.agg #[.string x.key, .string x.value]] w fun e w' => e = .returned (.bool (yes (KeyP x.key ∧ ValP x.value))) ∧ Below w.heap.size w w' := by
  have h1 := hw.1
  have h2 := hw.2
  unfold maxLen at h1 h2
  have HK := Lib.hid (fun w => impl_key x.key w h1)
  have HV := Lib.hid (fun w => impl_val x.value w h2)
  rw [yes_and]
  clear hw h1 h2
  generalize x.key = a at HK
  generalize x.value = b at HV
  cases hk : yes (KeyP a) with
  | false =>
    rw [hk] at HK
    clear hk HV
    go_enter Tryz.func133, Tryz.ntmps133
    go_wp2_with fail
    refine (HK.out _).mono ?_
    rintro e w1 ⟨rfl, hb⟩
    go_wp2_with fail
    go_ret
    exact ⟨rfl, (Below.refl _ _).alloc (Nat.le_refl _) _ |>.trans (hb.mono (by simp))⟩
  | true =>
    rw [hk] at HK
    generalize yes (ValP b) = R at HV
    clear hk
    go_enter Tryz.func133, Tryz.ntmps133
    go_wp2_with fail
    refine (HK.out _).mono ?_
    rintro e w1 ⟨rfl, hb⟩
    have q1 : w1.cell? ⟨w.heap.size, 1, none⟩ = some (.string b) := by
      rw [World.cell?_of_block (hb.block _ (by simp))]
      simp
    have hb2 : Below w.heap.size w w1 := (Below.refl _ _).alloc (Nat.le_refl _) _ |>.trans (hb.mono (by simp))
    clear hb
    go_wp2_with fail
    refine (HV.out _).mono ?_
    rintro e w2 ⟨rfl, hb⟩
    go_wp2_with fail
    go_ret
    exact ⟨by cases R <;> rfl, hb2.trans (hb.mono hb2.size)⟩
end Go.Proofs.YtdgedclpaplgoaaGreatDoor.lab
