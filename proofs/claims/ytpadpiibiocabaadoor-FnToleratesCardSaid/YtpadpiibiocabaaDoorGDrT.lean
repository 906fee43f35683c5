/- Merged: DrawTt DrawTo. -/
import Derived.Test.YtpadpiibiocabaaDoorGDraw
import Derived.Test.YtpadpiibiocabaaDoorGFl
namespace Go.Proofs.YtpadpiibiocabaaDoor.draw
open Go.ChangeShapes Go.WideShapes Go.ChangeAt Go.RowKit ty
set_option linter.unusedVariables false

/-- What is known of a drawn taint. -/
structure TinyT (m : Nat) (x : Taint) : Prop where
  key : x.key.size ≤ m
  value : x.value.size ≤ m
  lo : -1 ≤ x.effect
  hi : x.effect ≤ 4
theorem TinyT.wf {m : Nat} {x : Taint} (h : TinyT m x) (hm : m ≤ 1000) : x.Wf := by
  exact ⟨by have := h.key; unfold maxLen; omega, by have := h.value; unfold maxLen; omega, wf_intX h.lo (by have := h.hi; omega)⟩
theorem TrydsizeTn : (Tryd.prog.info? 32).map (·.size) = some 3 := by kernel_rfl
set_option maxRecDepth 1000000 in
set_option maxHeartbeats 16000000 in
theorem taint_any (c : Nat) (A : Option Addr) (len cap : Nat) (z : Nat → Int) (w : World) (hc : Cur w c A len cap z) :
    Calls Tryd.prog 77 #[.pointer (some ⟨c, 0, none⟩)] w (GotX Taint.cells (TinyT 5) c A len cap z w) := by
  have hclt := hc.lt
  obtain ⟨W, hW⟩ : ∃ W, W = w.alloc (.cells #[.string ⟨#[]⟩, .string ⟨#[]⟩, .int .i64 0] 32) := ⟨_, rfl⟩
  have S0 := Lib.hid (show Bx0 w c A len cap z 32 [.string ⟨#[]⟩, .string ⟨#[]⟩, .int .i64 0] W by rw [hW]; exact Bx0.new hc)
  have HW := Lib.hid hW
  have HC0 := Lib.hid (labKey_any c A len cap z W S0.out.cur)
  clear hc hW
  go_enter Tryd.func77, Tryd.ntmps77
  go_wp2_with fail
  rw [← HW.out]
  go_wp2_with fail
  refine HC0.out.mono ?_
  rintro e w1 ⟨k, hk, rfl, hc1, hg1⟩
  have S1 := Lib.hid (S0.out.turn hclt hc1 hg1)
  have HV := Lib.hid (labVal_any c A len cap z w1 hc1)
  clear hc1 hg1 HC0 S0
  go_wp2_with fail
  refine HV.out.mono ?_
  rintro e w2 ⟨y, hy, rfl, hc2, hg2⟩
  have S2 := Lib.hid (S1.out.turn hclt hc2 hg2)
  have HB := Lib.hid (below_any c A len cap z 2 w2 hc2 (by decide) (by decide))
  clear hc2 hg2 HV S1
  go_wp2_with fail
  refine HB.out.mono ?_
  rintro e w3 ⟨x, hx, rfl, hc3, hg3⟩
  have S3 := Lib.hid (S2.out.turn hclt hc3 hg3)
  have hwx : IntKind.i64.wrap (1 + x) = 1 + x := IntWalk.i64_in _ (by omega)
  obtain ⟨n, hn⟩ : ∃ n, 1 + x = n := ⟨_, rfl⟩
  rw [hn] at hwx
  have hn1 : 1 ≤ n := by omega
  have hn2 : n ≤ 2 := by omega
  clear hc3 hg3 HB S2
  have HR := Lib.hid (S3.out.done (enc := Taint.cells) (P := (TinyT 5)) (x := ⟨k, y, n⟩) hclt (⟨hk, by show y.size ≤ 5; omega, by show -1 ≤ n; omega, by show n ≤ 4; omega⟩))
  have h51 : (w3).heap[w.heap.size]? = some (.cells #[.string ⟨#[]⟩, .string ⟨#[]⟩, .int .i64 0] 32 (0, 0)) := S3.out.zero
  have H51 := Lib.hid h51
  go_wp2_with (first | (refine wpList_store_row rfl 32 _ _ rfl w.heap.size #[.string k, .string y, .int .i64 n] rfl rfl 32 _ h51 TrydsizeTn rfl (by simp [Value.oneCell']) ?_) | fail)
  refine bodyPost_ret (v := .agg #[.string k, .string y, .int .i64 n]) ?_ rfl HR.out
  exact results_cell_row rfl _ _ w.heap.size _ _ (0, 0) _ rfl (setRow_at H51.out) Tryd.underlying32 rfl TrydsizeTn
set_option maxRecDepth 1000000 in
set_option maxHeartbeats 16000000 in
theorem anyTaint_any (c : Nat) (A : Option Addr) (len cap : Nat) (z : Nat → Int) (w : World) (hc : Cur w c A len cap z) :
    Calls Tryd.prog 52 #[.pointer (some ⟨c, 0, none⟩)] w (GotX Taint.cells (TinyT 5) c A len cap z w) := by
  have hclt := hc.lt
  obtain ⟨W, hW⟩ : ∃ W, W = w.alloc (.cells #[.string ⟨#[]⟩, .string ⟨#[]⟩, .int .i64 0] 32) := ⟨_, rfl⟩
  have S0 := Lib.hid (show Bx0 w c A len cap z 32 [.string ⟨#[]⟩, .string ⟨#[]⟩, .int .i64 0] W by rw [hW]; exact Bx0.new hc)
  have HW := Lib.hid hW
  have HC0 := Lib.hid (taint_any c A len cap z W S0.out.cur)
  clear hc hW
  go_enter Tryd.func52, Tryd.ntmps52
  go_wp2_with fail
  rw [← HW.out]
  go_wp2_with fail
  refine HC0.out.mono ?_
  rintro e w1 ⟨t, ht, rfl, hc1, hg1⟩
  have hb1 : w.heap.size < w1.heap.size := heap_lt (RowE.cur S0.out.zero hg1 (by omega))
  have S1 := Lib.hid ((S0.out.turn hclt hc1 hg1).box (us := [.string t.key, .string t.value, .int .i64 t.effect]) hclt)
  obtain ⟨X, hX⟩ : ∃ X, X = w1.alloc (.cells #[.string t.key, .string t.value, .int .i64 t.effect] 32) := ⟨_, rfl⟩
  have HX := Lib.hid hX
  have S2 := Lib.hid (show Bx1 w c A len cap z 32 [.string ⟨#[]⟩, .string ⟨#[]⟩, .int .i64 0] w1.heap.size [.string t.key, .string t.value, .int .i64 t.effect] X by rw [hX]; exact S1.out)
  have HB := Lib.hid (below_any c A len cap z 10 X S2.out.cur (by decide) (by decide))
  obtain ⟨b, hb⟩ : ∃ b, b = w1.heap.size := ⟨_, rfl⟩
  have Hb := Lib.hid hb
  rw [← hb] at hb1 S2
  have ht1 := ht.key
  have ht2 := ht.value
  have ht3 := ht.lo
  have ht4 := ht.hi
  clear hc1 hg1 HC0 S0 S1 hX hb ht
  obtain ⟨k, y, n⟩ := t
  simp only [Taint.cells] at *
  go_wp2_with fail
  rw [← HX.out, ← Hb.out]
  refine HB.out.mono ?_
  rintro e w2 ⟨x, hx, rfl, hc2, hg2⟩
  have S3 := Lib.hid (S2.out.turn hclt hb1 hc2 hg2)
  clear hg2 HB S2
  by_cases x0 : x = 0
  · subst x0
    have HB := Lib.hid (below_any c A len cap z 5 w2 hc2 (by decide) (by decide))
    clear hc2
    go_wp2_with fail
    refine HB.out.mono ?_
    rintro e w3 ⟨m, hm, rfl, hc3, hg3⟩
    have S4 := Lib.hid (S3.out.turn hclt hb1 hc3 hg3)
    have hwm : IntKind.i64.wrap (m - 1) = m - 1 := IntWalk.i64_in _ (by omega)
    obtain ⟨n2, hn2⟩ : ∃ n, m - 1 = n := ⟨_, rfl⟩
    rw [hn2] at hwm
    have hm1 : -1 ≤ n2 := by omega
    have hm2 : n2 ≤ 3 := by omega
    have p2 := S4.out.mine.cell 2 _ rfl
    have f2 := RowE.frozen S4.out.mine 2
    have S5 := Lib.hid (S4.out.put hclt hb1 2 (.int .i64 n2))
    clear hc3 hg3 HB S3 hm
    have HR := Lib.hid (S5.out.done (enc := Taint.cells) (P := (TinyT 5)) (x := ⟨k, y, n2⟩) hclt (⟨ht1, ht2, hm1, by show n2 ≤ 4; omega⟩))
    have h51 : (w3.setCell ⟨b, 2, none⟩ (.int .i64 n2)).heap[w.heap.size]? = some (.cells #[.string ⟨#[]⟩, .string ⟨#[]⟩, .int .i64 0] 32 (0, 0)) := S5.out.zero
    have H51 := Lib.hid h51
    have h52 : (w3.setCell ⟨b, 2, none⟩ (.int .i64 n2)).heap[b]? = some (.cells #[.string k, .string y, .int .i64 n2] 32 (0, 0)) := S5.out.mine
    go_wp2_with (first | (refine wpList_load_row rfl 32 _ rfl b rfl 32 #[.string k, .string y, .int .i64 n2] (0, 0) _ h52 Tryd.underlying32 rfl TrydsizeTn ?_) | (refine wpList_store_row rfl 32 _ _ rfl w.heap.size #[.string k, .string y, .int .i64 n2] rfl rfl 32 _ h51 TrydsizeTn rfl (by simp [Value.oneCell']) ?_) | fail)
    refine bodyPost_ret (v := .agg #[.string k, .string y, .int .i64 n2]) ?_ rfl HR.out
    exact results_cell_row rfl _ _ w.heap.size _ _ (0, 0) _ rfl (setRow_at H51.out) Tryd.underlying32 rfl TrydsizeTn
  have x0' : (x == 0) = false := beq_eq_false_iff_ne.2 x0
  by_cases x1 : x = 1
  · subst x1
    have p0 := S3.out.mine.cell 0 _ rfl
    have f0 := RowE.frozen S3.out.mine 0
    have S5 := Lib.hid (S3.out.put hclt hb1 0 (.string ⟨#[]⟩))
    clear hc2 hx x0
    have HR := Lib.hid (S5.out.done (enc := Taint.cells) (P := (TinyT 5)) (x := ⟨⟨#[]⟩, y, n⟩) hclt (⟨by show (⟨#[]⟩ : ByteArray).size ≤ 5; decide, ht2, ht3, ht4⟩))
    have h51 : (w2.setCell ⟨b, 0, none⟩ (.string ⟨#[]⟩)).heap[w.heap.size]? = some (.cells #[.string ⟨#[]⟩, .string ⟨#[]⟩, .int .i64 0] 32 (0, 0)) := S5.out.zero
    have H51 := Lib.hid h51
    have h52 : (w2.setCell ⟨b, 0, none⟩ (.string ⟨#[]⟩)).heap[b]? = some (.cells #[.string ⟨#[]⟩, .string y, .int .i64 n] 32 (0, 0)) := S5.out.mine
    go_wp2_with (first | (refine wpList_load_row rfl 32 _ rfl b rfl 32 #[.string ⟨#[]⟩, .string y, .int .i64 n] (0, 0) _ h52 Tryd.underlying32 rfl TrydsizeTn ?_) | (refine wpList_store_row rfl 32 _ _ rfl w.heap.size #[.string ⟨#[]⟩, .string y, .int .i64 n] rfl rfl 32 _ h51 TrydsizeTn rfl (by simp [Value.oneCell']) ?_) | fail)
    refine bodyPost_ret (v := .agg #[.string ⟨#[]⟩, .string y, .int .i64 n]) ?_ rfl HR.out
    exact results_cell_row rfl _ _ w.heap.size _ _ (0, 0) _ rfl (setRow_at H51.out) Tryd.underlying32 rfl TrydsizeTn
  have x1' : (x == 1) = false := beq_eq_false_iff_ne.2 x1
  clear hc2 hx x0 x1
  have HR := Lib.hid (S3.out.done (enc := Taint.cells) (P := (TinyT 5)) (x := ⟨k, y, n⟩) hclt (⟨ht1, ht2, ht3, ht4⟩))
  have h51 : (w2).heap[w.heap.size]? = some (.cells #[.string ⟨#[]⟩, .string ⟨#[]⟩, .int .i64 0] 32 (0, 0)) := S3.out.zero
  have H51 := Lib.hid h51
  have h52 : (w2).heap[b]? = some (.cells #[.string k, .string y, .int .i64 n] 32 (0, 0)) := S3.out.mine
  go_wp2_with (first | (refine wpList_load_row rfl 32 _ rfl b rfl 32 #[.string k, .string y, .int .i64 n] (0, 0) _ h52 Tryd.underlying32 rfl TrydsizeTn ?_) | (refine wpList_store_row rfl 32 _ _ rfl w.heap.size #[.string k, .string y, .int .i64 n] rfl rfl 32 _ h51 TrydsizeTn rfl (by simp [Value.oneCell']) ?_) | fail)
  refine bodyPost_ret (v := .agg #[.string k, .string y, .int .i64 n]) ?_ rfl HR.out
  exact results_cell_row rfl _ _ w.heap.size _ _ (0, 0) _ rfl (setRow_at H51.out) Tryd.underlying32 rfl TrydsizeTn
end Go.Proofs.YtpadpiibiocabaaDoor.draw
namespace Go.Proofs.YtpadpiibiocabaaDoor.draw
open Go.ChangeShapes Go.WideShapes Go.ChangeAt Go.RowKit ty
set_option linter.unusedVariables false

/-- What is known of a drawn toleration. -/
structure TinyO (m : Nat) (x : Tolerance) : Prop where
  key : x.key.size ≤ m
  value : x.value.size ≤ m
  lo : -1 ≤ x.effect
  hi : x.effect ≤ 4
theorem TinyO.wf {m : Nat} {x : Tolerance} (h : TinyO m x) (hm : m ≤ 1000) : x.Wf := by
  exact ⟨by have := h.key; unfold maxLen; omega, by have := h.value; unfold maxLen; omega, wf_intX h.lo (by have := h.hi; omega)⟩
theorem TrydsizeTo : (Tryd.prog.info? 30).map (·.size) = some 4 := by kernel_rfl
set_option maxRecDepth 1000000 in
set_option maxHeartbeats 16000000 in
theorem tol_any (c : Nat) (A : Option Addr) (len cap : Nat) (z : Nat → Int) (w : World) (hc : Cur w c A len cap z) :
    Calls Tryd.prog 73 #[.pointer (some ⟨c, 0, none⟩)] w (GotX Tolerance.cells (TinyO 5) c A len cap z w) := by
  have hclt := hc.lt
  obtain ⟨W, hW⟩ : ∃ W, W = w.alloc (.cells #[.string ⟨#[]⟩, .bool false, .string ⟨#[]⟩, .int .i64 0] 30) := ⟨_, rfl⟩
  have S0 := Lib.hid (show Bx0 w c A len cap z 30 [.string ⟨#[]⟩, .bool false, .string ⟨#[]⟩, .int .i64 0] W by rw [hW]; exact Bx0.new hc)
  have HW := Lib.hid hW
  have HC0 := Lib.hid (labKey_any c A len cap z W S0.out.cur)
  clear hc hW
  go_enter Tryd.func73, Tryd.ntmps73
  go_wp2_with fail
  rw [← HW.out]
  go_wp2_with fail
  refine HC0.out.mono ?_
  rintro e w1 ⟨k, hk, rfl, hc1, hg1⟩
  have S1 := Lib.hid (S0.out.turn hclt hc1 hg1)
  have HB := Lib.hid (below_any c A len cap z 3 w1 hc1 (by decide) (by decide))
  clear hc1 hg1 HC0 S0
  go_wp2_with fail
  refine HB.out.mono ?_
  rintro e w2 ⟨n, hn, rfl, hc2, hg2⟩
  have hb1 : w.heap.size < w2.heap.size := heap_lt (RowE.cur S1.out.zero hg2 (by omega))
  have S1 := Lib.hid ((S1.out.turn hclt hc2 hg2).box (us := [.string k, .bool false, .string ⟨#[]⟩, .int .i64 n]) hclt)
  obtain ⟨X, hX⟩ : ∃ X, X = w2.alloc (.cells #[.string k, .bool false, .string ⟨#[]⟩, .int .i64 n] 30) := ⟨_, rfl⟩
  have HX := Lib.hid hX
  have S2 := Lib.hid (show Bx1 w c A len cap z 30 [.string ⟨#[]⟩, .bool false, .string ⟨#[]⟩, .int .i64 0] w2.heap.size [.string k, .bool false, .string ⟨#[]⟩, .int .i64 n] X by rw [hX]; exact S1.out)
  have HO := Lib.hid (once_any c A len cap z 2 X S2.out.cur (by decide) (by decide))
  obtain ⟨b, hb⟩ : ∃ b, b = w2.heap.size := ⟨_, rfl⟩
  have Hb := Lib.hid hb
  rw [← hb] at hb1 S2
  clear hc2 hg2 HB S1 hX hb
  go_wp2_with fail
  rw [← HX.out, ← Hb.out]
  refine HO.out.mono ?_
  rintro e w3 ⟨q, rfl, hc3, hg3⟩
  have S3 := Lib.hid (S2.out.turn hclt hb1 hc3 hg3)
  clear hg3 HO S2
  cases q with
  | true =>
    have p1 := S3.out.mine.cell 1 _ rfl
    have f1 := RowE.frozen S3.out.mine 1
    have S4 := Lib.hid (S3.out.put hclt hb1 1 (.bool true))
    obtain ⟨w4, hw4⟩ : ∃ w4, w4 = w3.setCell ⟨b, 1, none⟩ (.bool true) := ⟨_, rfl⟩
    have Hw4 := Lib.hid hw4
    rw [← hw4] at S4
    have HV := Lib.hid (labVal_any c A len cap z w4 S4.out.cur)
    clear hc3 S3 hw4
    go_wp2_with fail
    rw [← Hw4.out]
    refine HV.out.mono ?_
    rintro e w5 ⟨y, hy, rfl, hc5, hg5⟩
    have S5 := Lib.hid (S4.out.turn hclt hb1 hc5 hg5)
    have p2 := S5.out.mine.cell 2 _ rfl
    have f2 := RowE.frozen S5.out.mine 2
    have S6 := Lib.hid (S5.out.put hclt hb1 2 (.string y))
    clear hc5 hg5 HV S4 S5
    have HR := Lib.hid (S6.out.done (enc := Tolerance.cells) (P := (TinyO 5)) (x := ⟨k, true, y, n⟩) hclt (⟨hk, by show y.size ≤ 5; omega, by show -1 ≤ n; omega, by show n ≤ 4; omega⟩))
    have h51 : (w5.setCell ⟨b, 2, none⟩ (.string y)).heap[w.heap.size]? = some (.cells #[.string ⟨#[]⟩, .bool false, .string ⟨#[]⟩, .int .i64 0] 30 (0, 0)) := S6.out.zero
    have H51 := Lib.hid h51
    have h52 : (w5.setCell ⟨b, 2, none⟩ (.string y)).heap[b]? = some (.cells #[.string k, .bool true, .string y, .int .i64 n] 30 (0, 0)) := S6.out.mine
    go_wp2_with (first | (refine wpList_load_row rfl 30 _ rfl b rfl 30 #[.string k, .bool true, .string y, .int .i64 n] (0, 0) _ h52 Tryd.underlying30 rfl TrydsizeTo ?_) | (refine wpList_store_row rfl 30 _ _ rfl w.heap.size #[.string k, .bool true, .string y, .int .i64 n] rfl rfl 30 _ h51 TrydsizeTo rfl (by simp [Value.oneCell']) ?_) | fail)
    refine bodyPost_ret (v := .agg #[.string k, .bool true, .string y, .int .i64 n]) ?_ rfl HR.out
    exact results_cell_row rfl _ _ w.heap.size _ _ (0, 0) _ rfl (setRow_at H51.out) Tryd.underlying30 rfl TrydsizeTo
  | false =>
    have HO := Lib.hid (once_any c A len cap z 3 w3 hc3 (by decide) (by decide))
    clear hc3
    go_wp2_with fail
    refine HO.out.mono ?_
    rintro e w4 ⟨q, rfl, hc4, hg4⟩
    have S4 := Lib.hid (S3.out.turn hclt hb1 hc4 hg4)
    clear hc4 hg4 HO S3
    cases q with
    | true =>
      have p0 := S4.out.mine.cell 0 _ rfl
      have f0 := RowE.frozen S4.out.mine 0
      have S5 := Lib.hid (S4.out.put hclt hb1 0 (.string ⟨#[]⟩))
      have HR := Lib.hid (S5.out.done (enc := Tolerance.cells) (P := (TinyO 5)) (x := ⟨⟨#[]⟩, false, ⟨#[]⟩, n⟩) hclt (⟨by show (⟨#[]⟩ : ByteArray).size ≤ 5; decide, by show (⟨#[]⟩ : ByteArray).size ≤ 5; decide, by show -1 ≤ n; omega, by show n ≤ 4; omega⟩))
      have h51 : (w4.setCell ⟨b, 0, none⟩ (.string ⟨#[]⟩)).heap[w.heap.size]? = some (.cells #[.string ⟨#[]⟩, .bool false, .string ⟨#[]⟩, .int .i64 0] 30 (0, 0)) := S5.out.zero
      have H51 := Lib.hid h51
      have h52 : (w4.setCell ⟨b, 0, none⟩ (.string ⟨#[]⟩)).heap[b]? = some (.cells #[.string ⟨#[]⟩, .bool false, .string ⟨#[]⟩, .int .i64 n] 30 (0, 0)) := S5.out.mine
      go_wp2_with (first | (refine wpList_load_row rfl 30 _ rfl b rfl 30 #[.string ⟨#[]⟩, .bool false, .string ⟨#[]⟩, .int .i64 n] (0, 0) _ h52 Tryd.underlying30 rfl TrydsizeTo ?_) | (refine wpList_store_row rfl 30 _ _ rfl w.heap.size #[.string ⟨#[]⟩, .bool false, .string ⟨#[]⟩, .int .i64 n] rfl rfl 30 _ h51 TrydsizeTo rfl (by simp [Value.oneCell']) ?_) | fail)
      refine bodyPost_ret (v := .agg #[.string ⟨#[]⟩, .bool false, .string ⟨#[]⟩, .int .i64 n]) ?_ rfl HR.out
      exact results_cell_row rfl _ _ w.heap.size _ _ (0, 0) _ rfl (setRow_at H51.out) Tryd.underlying30 rfl TrydsizeTo
    | false =>
      have HR := Lib.hid (S4.out.done (enc := Tolerance.cells) (P := (TinyO 5)) (x := ⟨k, false, ⟨#[]⟩, n⟩) hclt (⟨hk, by show (⟨#[]⟩ : ByteArray).size ≤ 5; decide, by show -1 ≤ n; omega, by show n ≤ 4; omega⟩))
      have h51 : (w4).heap[w.heap.size]? = some (.cells #[.string ⟨#[]⟩, .bool false, .string ⟨#[]⟩, .int .i64 0] 30 (0, 0)) := S4.out.zero
      have H51 := Lib.hid h51
      have h52 : (w4).heap[b]? = some (.cells #[.string k, .bool false, .string ⟨#[]⟩, .int .i64 n] 30 (0, 0)) := S4.out.mine
      go_wp2_with (first | (refine wpList_load_row rfl 30 _ rfl b rfl 30 #[.string k, .bool false, .string ⟨#[]⟩, .int .i64 n] (0, 0) _ h52 Tryd.underlying30 rfl TrydsizeTo ?_) | (refine wpList_store_row rfl 30 _ _ rfl w.heap.size #[.string k, .bool false, .string ⟨#[]⟩, .int .i64 n] rfl rfl 30 _ h51 TrydsizeTo rfl (by simp [Value.oneCell']) ?_) | fail)
      refine bodyPost_ret (v := .agg #[.string k, .bool false, .string ⟨#[]⟩, .int .i64 n]) ?_ rfl HR.out
      exact results_cell_row rfl _ _ w.heap.size _ _ (0, 0) _ rfl (setRow_at H51.out) Tryd.underlying30 rfl TrydsizeTo
set_option maxRecDepth 1000000 in
set_option maxHeartbeats 16000000 in
theorem anyTol_any (c : Nat) (A : Option Addr) (len cap : Nat) (z : Nat → Int) (w : World) (hc : Cur w c A len cap z) :
    Calls Tryd.prog 51 #[.pointer (some ⟨c, 0, none⟩)] w (GotX Tolerance.cells (TinyO 5) c A len cap z w) := by
  have hclt := hc.lt
  obtain ⟨W, hW⟩ : ∃ W, W = w.alloc (.cells #[.string ⟨#[]⟩, .bool false, .string ⟨#[]⟩, .int .i64 0] 30) := ⟨_, rfl⟩
  have S0 := Lib.hid (show Bx0 w c A len cap z 30 [.string ⟨#[]⟩, .bool false, .string ⟨#[]⟩, .int .i64 0] W by rw [hW]; exact Bx0.new hc)
  have HW := Lib.hid hW
  have HC0 := Lib.hid (tol_any c A len cap z W S0.out.cur)
  clear hc hW
  go_enter Tryd.func51, Tryd.ntmps51
  go_wp2_with fail
  rw [← HW.out]
  go_wp2_with fail
  refine HC0.out.mono ?_
  rintro e w1 ⟨t, ht, rfl, hc1, hg1⟩
  have hb1 : w.heap.size < w1.heap.size := heap_lt (RowE.cur S0.out.zero hg1 (by omega))
  have S1 := Lib.hid ((S0.out.turn hclt hc1 hg1).box (us := [.string t.key, .bool t.equal, .string t.value, .int .i64 t.effect]) hclt)
  obtain ⟨X, hX⟩ : ∃ X, X = w1.alloc (.cells #[.string t.key, .bool t.equal, .string t.value, .int .i64 t.effect] 30) := ⟨_, rfl⟩
  have HX := Lib.hid hX
  have S2 := Lib.hid (show Bx1 w c A len cap z 30 [.string ⟨#[]⟩, .bool false, .string ⟨#[]⟩, .int .i64 0] w1.heap.size [.string t.key, .bool t.equal, .string t.value, .int .i64 t.effect] X by rw [hX]; exact S1.out)
  have HB := Lib.hid (below_any c A len cap z 10 X S2.out.cur (by decide) (by decide))
  obtain ⟨b, hb⟩ : ∃ b, b = w1.heap.size := ⟨_, rfl⟩
  have Hb := Lib.hid hb
  rw [← hb] at hb1 S2
  have ht1 := ht.key
  have ht2 := ht.value
  have ht3 := ht.lo
  have ht4 := ht.hi
  clear hc1 hg1 HC0 S0 S1 hX hb ht
  obtain ⟨k, q, y, n⟩ := t
  simp only [Tolerance.cells] at *
  go_wp2_with fail
  rw [← HX.out, ← Hb.out]
  refine HB.out.mono ?_
  rintro e w2 ⟨x, hx, rfl, hc2, hg2⟩
  have S3 := Lib.hid (S2.out.turn hclt hb1 hc2 hg2)
  clear hg2 HB S2
  by_cases x0 : x = 0
  · subst x0
    have HB := Lib.hid (below_any c A len cap z 5 w2 hc2 (by decide) (by decide))
    clear hc2
    go_wp2_with fail
    refine HB.out.mono ?_
    rintro e w3 ⟨m, hm, rfl, hc3, hg3⟩
    have S4 := Lib.hid (S3.out.turn hclt hb1 hc3 hg3)
    have hwm : IntKind.i64.wrap (m - 1) = m - 1 := IntWalk.i64_in _ (by omega)
    obtain ⟨n2, hn2⟩ : ∃ n, m - 1 = n := ⟨_, rfl⟩
    rw [hn2] at hwm
    have hm1 : -1 ≤ n2 := by omega
    have hm2 : n2 ≤ 3 := by omega
    have p3 := S4.out.mine.cell 3 _ rfl
    have f3 := RowE.frozen S4.out.mine 3
    have S5 := Lib.hid (S4.out.put hclt hb1 3 (.int .i64 n2))
    clear hc3 hg3 HB S3 hm
    have HR := Lib.hid (S5.out.done (enc := Tolerance.cells) (P := (TinyO 5)) (x := ⟨k, q, y, n2⟩) hclt (⟨ht1, ht2, hm1, by show n2 ≤ 4; omega⟩))
    have h51 : (w3.setCell ⟨b, 3, none⟩ (.int .i64 n2)).heap[w.heap.size]? = some (.cells #[.string ⟨#[]⟩, .bool false, .string ⟨#[]⟩, .int .i64 0] 30 (0, 0)) := S5.out.zero
    have H51 := Lib.hid h51
    have h52 : (w3.setCell ⟨b, 3, none⟩ (.int .i64 n2)).heap[b]? = some (.cells #[.string k, .bool q, .string y, .int .i64 n2] 30 (0, 0)) := S5.out.mine
    go_wp2_with (first | (refine wpList_load_row rfl 30 _ rfl b rfl 30 #[.string k, .bool q, .string y, .int .i64 n2] (0, 0) _ h52 Tryd.underlying30 rfl TrydsizeTo ?_) | (refine wpList_store_row rfl 30 _ _ rfl w.heap.size #[.string k, .bool q, .string y, .int .i64 n2] rfl rfl 30 _ h51 TrydsizeTo rfl (by simp [Value.oneCell']) ?_) | fail)
    refine bodyPost_ret (v := .agg #[.string k, .bool q, .string y, .int .i64 n2]) ?_ rfl HR.out
    exact results_cell_row rfl _ _ w.heap.size _ _ (0, 0) _ rfl (setRow_at H51.out) Tryd.underlying30 rfl TrydsizeTo
  have x0' : (x == 0) = false := beq_eq_false_iff_ne.2 x0
  by_cases x1 : x = 1
  · subst x1
    have p1 := S3.out.mine.cell 1 _ rfl
    have f1 := RowE.frozen S3.out.mine 1
    have S5 := Lib.hid (S3.out.put hclt hb1 1 (.bool (!q)))
    clear hc2 hx x0
    have HR := Lib.hid (S5.out.done (enc := Tolerance.cells) (P := (TinyO 5)) (x := ⟨k, !q, y, n⟩) hclt (⟨ht1, ht2, ht3, ht4⟩))
    have h51 : (w2.setCell ⟨b, 1, none⟩ (.bool (!q))).heap[w.heap.size]? = some (.cells #[.string ⟨#[]⟩, .bool false, .string ⟨#[]⟩, .int .i64 0] 30 (0, 0)) := S5.out.zero
    have H51 := Lib.hid h51
    have h52 : (w2.setCell ⟨b, 1, none⟩ (.bool (!q))).heap[b]? = some (.cells #[.string k, .bool (!q), .string y, .int .i64 n] 30 (0, 0)) := S5.out.mine
    go_wp2_with (first | (refine wpList_load_row rfl 30 _ rfl b rfl 30 #[.string k, .bool (!q), .string y, .int .i64 n] (0, 0) _ h52 Tryd.underlying30 rfl TrydsizeTo ?_) | (refine wpList_store_row rfl 30 _ _ rfl w.heap.size #[.string k, .bool (!q), .string y, .int .i64 n] rfl rfl 30 _ h51 TrydsizeTo rfl (by simp [Value.oneCell']) ?_) | fail)
    refine bodyPost_ret (v := .agg #[.string k, .bool (!q), .string y, .int .i64 n]) ?_ rfl HR.out
    exact results_cell_row rfl _ _ w.heap.size _ _ (0, 0) _ rfl (setRow_at H51.out) Tryd.underlying30 rfl TrydsizeTo
  have x1' : (x == 1) = false := beq_eq_false_iff_ne.2 x1
  by_cases x2 : x = 2
  · subst x2
    have p2 := S3.out.mine.cell 2 _ rfl
    have f2 := RowE.frozen S3.out.mine 2
    have S5 := Lib.hid (S3.out.put hclt hb1 2 (.string ⟨#[97, 47, 98]⟩))
    clear hc2 hx x0 x1
    have HR := Lib.hid (S5.out.done (enc := Tolerance.cells) (P := (TinyO 5)) (x := ⟨k, q, ⟨#[97, 47, 98]⟩, n⟩) hclt (⟨ht1, by show (⟨#[97, 47, 98]⟩ : ByteArray).size ≤ 5; decide, ht3, ht4⟩))
    have h51 : (w2.setCell ⟨b, 2, none⟩ (.string ⟨#[97, 47, 98]⟩)).heap[w.heap.size]? = some (.cells #[.string ⟨#[]⟩, .bool false, .string ⟨#[]⟩, .int .i64 0] 30 (0, 0)) := S5.out.zero
    have H51 := Lib.hid h51
    have h52 : (w2.setCell ⟨b, 2, none⟩ (.string ⟨#[97, 47, 98]⟩)).heap[b]? = some (.cells #[.string k, .bool q, .string ⟨#[97, 47, 98]⟩, .int .i64 n] 30 (0, 0)) := S5.out.mine
    go_wp2_with (first | (refine wpList_load_row rfl 30 _ rfl b rfl 30 #[.string k, .bool q, .string ⟨#[97, 47, 98]⟩, .int .i64 n] (0, 0) _ h52 Tryd.underlying30 rfl TrydsizeTo ?_) | (refine wpList_store_row rfl 30 _ _ rfl w.heap.size #[.string k, .bool q, .string ⟨#[97, 47, 98]⟩, .int .i64 n] rfl rfl 30 _ h51 TrydsizeTo rfl (by simp [Value.oneCell']) ?_) | fail)
    refine bodyPost_ret (v := .agg #[.string k, .bool q, .string ⟨#[97, 47, 98]⟩, .int .i64 n]) ?_ rfl HR.out
    exact results_cell_row rfl _ _ w.heap.size _ _ (0, 0) _ rfl (setRow_at H51.out) Tryd.underlying30 rfl TrydsizeTo
  have x2' : (x == 2) = false := beq_eq_false_iff_ne.2 x2
  clear hc2 hx x0 x1 x2
  have HR := Lib.hid (S3.out.done (enc := Tolerance.cells) (P := (TinyO 5)) (x := ⟨k, q, y, n⟩) hclt (⟨ht1, ht2, ht3, ht4⟩))
  have h51 : (w2).heap[w.heap.size]? = some (.cells #[.string ⟨#[]⟩, .bool false, .string ⟨#[]⟩, .int .i64 0] 30 (0, 0)) := S3.out.zero
  have H51 := Lib.hid h51
  have h52 : (w2).heap[b]? = some (.cells #[.string k, .bool q, .string y, .int .i64 n] 30 (0, 0)) := S3.out.mine
  go_wp2_with (first | (refine wpList_load_row rfl 30 _ rfl b rfl 30 #[.string k, .bool q, .string y, .int .i64 n] (0, 0) _ h52 Tryd.underlying30 rfl TrydsizeTo ?_) | (refine wpList_store_row rfl 30 _ _ rfl w.heap.size #[.string k, .bool q, .string y, .int .i64 n] rfl rfl 30 _ h51 TrydsizeTo rfl (by simp [Value.oneCell']) ?_) | fail)
  refine bodyPost_ret (v := .agg #[.string k, .bool q, .string y, .int .i64 n]) ?_ rfl HR.out
  exact results_cell_row rfl _ _ w.heap.size _ _ (0, 0) _ rfl (setRow_at H51.out) Tryd.underlying30 rfl TrydsizeTo
end Go.Proofs.YtpadpiibiocabaaDoor.draw
