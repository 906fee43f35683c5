/- Drawn frames: l06Frame, l06Any, DrawFrameText. -/
import Derived.Test.YtljahpngngmecaaDoorFrOkS
import Derived.Test.YtljahpngngmecaaDoorDrawText
import Derived.Test.YtljahpngngmecaaDoorDrawPick
import Derived.Test.YtljahpngngmecaaDoorDrawLong
import Derived.Test.YtljahpngngmecaaDoorBigL
namespace Go.Proofs.YtljahpngngmecaaDoor.draw
open Go.ChangeShapes Go.WideShapes Go.ChangeAt Go.RowKit
open frame
set_option linter.unusedVariables false

/-- A frame with P is returned; nothing but the cursor's block (and new blocks) turns. -/
def GotF (P : Int → ByteArray → Prop) (c : Nat) (A : Option Addr) (len cap : Nat) (z : Nat → Int) (w : World) (e : Ending) (w' : World) : Prop :=
  ∃ (v : Int) (p : ByteArray), P v p ∧ e = .returned (frV v p) ∧ Cur w' c A len cap z ∧ w.grownBy w' (some c)
theorem kept_row {w w' : World} {c g : Nat} {o : Obj} (h : w.grownBy w' (some c)) (hg : g < w.heap.size) (hc : g ≠ c) (he : w.heap[g]? = some o) : w'.heap[g]? = some o :=
  (h.block g hg (by intro e; injection e with e; exact hc e)).trans he

theorem grown_below' {a b d : World} {row : Option Nat} (h : a.grownBy b row) (k : Below b.heap.size b d) : a.grownBy d row := grown_below h (k.mono h.size)

set_option maxRecDepth 100000 in
theorem frame_any (c : Nat) (A : Option Addr) (len cap : Nat) (z : Nat → Int) (w : World) (hc : Cur w c A len cap z) :
    Calls Tryd.prog 37 #[.pointer (some ⟨c, 0, none⟩)] w (GotF (fun v p => 1 ≤ v ∧ v ≤ 9 ∧ p.size < 20) c A len cap z w) := by
  have hlt := hc.lt
  have Hc0 := Lib.hid (cur_alloc hc (.cells #[.int .i64 0, .string ⟨#[]⟩] 25))
  have Hg0 := Lib.hid (grown_alloc w (.cells #[.int .i64 0, .string ⟨#[]⟩] 25) (some c))
  have Hr0 := Lib.hid (heap_alloc_new w (.cells #[.int .i64 0, .string ⟨#[]⟩] 25))
  have hsz : w.heap.size < (w.alloc (.cells #[.int .i64 0, .string ⟨#[]⟩] 25)).heap.size := by simp
  clear hc
  have H1 := Lib.hid (below_any c A len cap z 9 _ Hc0.out (by decide) (by decide))
  go_enter Tryd.func37, Tryd.ntmps37
  go_wp2_with fail
  refine H1.out.mono ?_
  rintro e w1 ⟨x, hx, rfl, hc1, hg1⟩
  have Hr1 := Lib.hid (kept_row hg1 hsz (by omega) Hr0.out)
  have Hg1 := Lib.hid (grown_trans Hg0.out hg1)
  have hz1 : w.heap.size < w1.heap.size := Nat.lt_of_lt_of_le hsz hg1.size
  have H2 := Lib.hid (below_any c A len cap z 20 w1 hc1 (by decide) (by decide))
  clear H1 Hr0 Hg0 Hc0 hc1 hg1
  go_wp2_with fail
  refine H2.out.mono ?_
  rintro e w2 ⟨y, hy, rfl, hc2, hg2⟩
  obtain ⟨n, rfl⟩ := Int.eq_ofNat_of_zero_le hy.1
  have Hr2 := Lib.hid (kept_row hg2 hz1 (by omega) Hr1.out)
  have Hg2 := Lib.hid (grown_trans Hg1.out hg2)
  have hz2 : w.heap.size < w2.heap.size := Nat.lt_of_lt_of_le hz1 hg2.size
  have H3 := Lib.hid (text_any c A len cap z n w2 hc2 (by omega))
  clear H2 Hr1 Hg1 hc2 hg2
  go_wp2_with fail
  refine H3.out.mono ?_
  rintro e w3 ⟨l, hl, rfl, hc3, hg3⟩
  have hr3 := kept_row hg3 hz2 (by omega) Hr2.out
  have hg3' := grown_trans Hg2.out hg3
  have hb3 : Below w.heap.size w3 (w3.setRow w.heap.size #[.int .i64 (1 + x), .string ⟨l.toArray⟩]) := setRow_below (Below.refl _ _) (Nat.le_refl _) _
  have Hc4 := Lib.hid (hc3.below hb3 hlt)
  have Hg4 := Lib.hid (grown_below hg3' hb3)
  have Hl : Hid ((⟨l.toArray⟩ : ByteArray).size < 20) := by
    unfold Hid
    show l.toArray.size < 20
    rw [List.size_toArray]; omega
  have Hr4 := Lib.hid (setRow_at (c := #[.int .i64 (1 + x), .string ⟨l.toArray⟩]) hr3)
  have ex : IntKind.i64.wrap (1 + x) = 1 + x := IntWalk.i64_in _ (by omega)
  clear H3 Hr2 Hg2 hc3 hg3 hl hb3 hg3'
  go_wp2_with (first | (refine wpList_store_row rfl 25 _ _ rfl w.heap.size #[.int .i64 (1 + x), .string ⟨l.toArray⟩] rfl rfl 25 _ hr3 frame_info rfl (frame_one _ _) ?_) | fail)
  refine bodyPost_ret (v := frV (1 + x) ⟨l.toArray⟩) ?_ rfl ⟨1 + x, ⟨l.toArray⟩, ⟨by omega, by omega, Hl.out⟩, rfl, Hc4.out, Hg4.out⟩
  exact results_cell_row rfl _ _ w.heap.size _ #[.int .i64 (1 + x), .string ⟨l.toArray⟩] (0, 0) _ rfl Hr4.out Tryd.underlying25 rfl frame_info

set_option maxRecDepth 100000 in
set_option maxHeartbeats 2000000 in
theorem any_frame (c : Nat) (A : Option Addr) (len cap : Nat) (z : Nat → Int) (w : World) (hc : Cur w c A len cap z) :
    Calls Tryd.prog 24 #[.pointer (some ⟨c, 0, none⟩)] w (GotF (fun v p => -1 ≤ v ∧ v ≤ 10 ∧ p.size ≤ 20000) c A len cap z w) := by
  have hlt := hc.lt
  have Hc0 := Lib.hid (cur_alloc hc (.cells #[.int .i64 0, .string ⟨#[]⟩] 25))
  have Hg0 := Lib.hid (grown_alloc w (.cells #[.int .i64 0, .string ⟨#[]⟩] 25) (some c))
  have Hr0 := Lib.hid (heap_alloc_new w (.cells #[.int .i64 0, .string ⟨#[]⟩] 25))
  have hsz : w.heap.size < (w.alloc (.cells #[.int .i64 0, .string ⟨#[]⟩] 25)).heap.size := by simp
  clear hc
  have H1 := Lib.hid (frame_any c A len cap z _ Hc0.out)
  go_enter Tryd.func24, Tryd.ntmps24
  go_wp2_with fail
  refine H1.out.mono ?_
  rintro e w1 ⟨v, p, hvp, rfl, hc1, hg1⟩
  have hr1 := kept_row hg1 hsz (by omega) Hr0.out
  have hz1 : w.heap.size < w1.heap.size := Nat.lt_of_lt_of_le hsz hg1.size
  have hb1 : Below w1.heap.size w1 (w1.alloc (.cells #[.int .i64 v, .string p] 25)) := (Below.refl _ _).alloc (Nat.le_refl _) _
  have Hr1 := Lib.hid (heap_kept hb1 hz1 hr1)
  have Hf1 := Lib.hid (heap_alloc_new w1 (.cells #[.int .i64 v, .string p] 25))
  have Hg1 := Lib.hid (grown_trans (grown_trans Hg0.out hg1) (grown_alloc w1 (.cells #[.int .i64 v, .string p] 25) (some c)))
  have hc1' := cur_alloc hc1 (.cells #[.int .i64 v, .string p] 25)
  have hz1' : w1.heap.size < (w1.alloc (.cells #[.int .i64 v, .string p] 25)).heap.size := by simp
  have H2 := Lib.hid (below_any c A len cap z 12 _ hc1' (by decide) (by decide))
  clear H1 Hr0 Hg0 Hc0 hc1 hg1 hr1 hb1 hc1'
  unfold frV
  go_wp2_with fail
  refine H2.out.mono ?_
  rintro e w2 ⟨x, hx, rfl, hc2, hg2⟩
  have hcw1 : c < w1.heap.size := by omega
  have Hr2 := Lib.hid (kept_row hg2 (by omega) (by omega) Hr1.out)
  have Hf2 := Lib.hid (kept_row hg2 hz1' (by omega) Hf1.out)
  have Hg2 := Lib.hid (grown_trans Hg1.out hg2)
  have hz2 : w1.heap.size < w2.heap.size := Nat.lt_of_lt_of_le hz1' hg2.size
  generalize w1.heap.size = g at Hf2 hz2 hz1 hcw1 ⊢
  clear H2 Hr1 Hf1 Hg1 hg2 hz1'
  have Hc2 := Lib.hid hc2
  clear hc2
  by_cases h0 : x = 0
  · subst h0
    have H3 := Lib.hid (pick_any c A len cap z w2.heap.size 3 3 [0, 10, -1] _ (cur_alloc Hc2.out _) (by decide) (by decide) rfl (by omega) (heap_alloc_new w2 _))
    have Hga := Lib.hid (grown_trans Hg2.out (grown_alloc w2 (.cells (icells [0, 10, -1]).toArray 3) (some c)))
    have hba : Below w2.heap.size w2 (w2.alloc (.cells (icells [0, 10, -1]).toArray 3)) := (Below.refl _ _).alloc (Nat.le_refl _) _
    have Hra := Lib.hid (heap_kept hba (by omega) Hr2.out)
    have Hfa := Lib.hid (heap_kept hba hz2 Hf2.out)
    have hza : g < (w2.alloc (.cells (icells [0, 10, -1]).toArray 3)).heap.size := Nat.lt_of_lt_of_le hz2 hba.size
    clear Hc2 Hr2 Hf2 Hg2 hba
    go_wp2_with fail
    refine H3.out.mono ?_
    rintro e w3 ⟨y, hy, rfl, hc3, hg3⟩
    have hr3 := kept_row hg3 (by omega) (by omega) Hra.out
    have hf3 := kept_row hg3 hza (by omega) Hfa.out
    have hg3' := grown_trans Hga.out hg3
    have hy2 : -1 ≤ y ∧ y ≤ 10 := by simp at hy; omega
    obtain ⟨q0, q1, f0, f1⟩ := two_cells hf3
    have hb4 : Below w.heap.size w3 (w3.setCell ⟨g, 0, none⟩ (.int .i64 y)) := (Below.refl _ _).setCell (p := ⟨g, 0, none⟩) (by show w.heap.size ≤ g; omega) _
    have Hcx := Lib.hid (hc3.below hb4 hlt)
    have Hgx := Lib.hid (grown_below hg3' hb4)
    have Hrx := Lib.hid ((Below.heap_setCell w3 ⟨g, 0, none⟩ (.int .i64 y) w.heap.size (by show w.heap.size ≠ g; omega)).trans hr3)
    have Hfx := Lib.hid (set_fst hf3 (.int .i64 y))
    clear H3 Hga Hra Hfa hza hc3 hg3 hr3 hf3 hg3' hy hb4
    have hb9 : Below w.heap.size (w3.setCell ⟨g, 0, none⟩ (.int .i64 y)) ((w3.setCell ⟨g, 0, none⟩ (.int .i64 y)).setRow w.heap.size #[.int .i64 (y), .string (p)]) := setRow_below (Below.refl _ _) (Nat.le_refl _) _
    have Hc9 := Lib.hid (Hcx.out.below hb9 hlt)
    have Hg9 := Lib.hid (grown_below Hgx.out hb9)
    have Hr9 := Lib.hid (setRow_at (c := #[.int .i64 (y), .string (p)]) Hrx.out)
    have hf9 := Hfx.out
    have hr9 := Hrx.out
    clear hb9 Hcx Hgx Hrx Hfx
    go_wp2_with (first | (refine wpList_load_row rfl 25 _ rfl g rfl 25 #[.int .i64 (y), .string (p)] (0, 0) _ hf9 Tryd.underlying25 rfl frame_info ?_) | (refine wpList_store_row rfl 25 _ _ rfl w.heap.size #[.int .i64 (y), .string (p)] rfl rfl 25 _ hr9 frame_info rfl (frame_one _ _) ?_) | fail)
    refine bodyPost_ret (v := frV (y) (p)) ?_ rfl ⟨y, p, ⟨hy2.1, hy2.2, by omega⟩, rfl, Hc9.out, Hg9.out⟩
    exact results_cell_row rfl _ _ w.heap.size _ #[.int .i64 (y), .string (p)] (0, 0) _ rfl Hr9.out Tryd.underlying25 rfl frame_info
  have h0' : (x == 0) = false := beq_eq_false_iff_ne.2 h0
  by_cases h1 : x = 1
  · subst h1
    have H3 := Lib.hid (below_any c A len cap z 3 w2 Hc2.out (by decide) (by decide))
    clear Hc2
    go_wp2_with fail
    refine H3.out.mono ?_
    rintro e w3 ⟨y, hy, rfl, hc3, hg3⟩
    have hr3 := kept_row hg3 (by omega) (by omega) Hr2.out
    have hf3 := kept_row hg3 hz2 (by omega) Hf2.out
    have hg3' := grown_trans Hg2.out hg3
    have hz3 : g < w3.heap.size := Nat.lt_of_lt_of_le hz2 hg3.size
    obtain ⟨n, hn⟩ : ∃ n : Nat, 19979 + y = (n : Int) := ⟨(19979 + y).toNat, by omega⟩
    have H4 := Lib.hid (fun w => long7_any n w (by omega))
    have Hc3 := Lib.hid hc3
    have Hr3 := Lib.hid hr3
    have Hf3 := Lib.hid hf3
    have Hg3 := Lib.hid hg3'
    clear H3 Hr2 Hf2 Hg2 hg3 hc3 hr3 hf3 hg3'
    go_wp2_with fail
    refine (H4.out _).mono ?_
    rintro e w4 ⟨s, hs, rfl, hb4⟩
    have hr4 := heap_kept hb4 (by omega) Hr3.out
    have hf4 := heap_kept hb4 hz3 Hf3.out
    have hc4 := Hc3.out.below hb4 (by omega)
    have hg4 := grown_below' Hg3.out hb4
    obtain ⟨q0, q1, f0, f1⟩ := two_cells hf4
    have hb5 : Below w.heap.size w4 (w4.setCell ⟨g, 1, none⟩ (.string s)) := (Below.refl _ _).setCell (p := ⟨g, 1, none⟩) (by show w.heap.size ≤ g; omega) _
    have Hcx := Lib.hid (hc4.below hb5 hlt)
    have Hgx := Lib.hid (grown_below hg4 hb5)
    have Hrx := Lib.hid ((Below.heap_setCell w4 ⟨g, 1, none⟩ (.string s) w.heap.size (by show w.heap.size ≠ g; omega)).trans hr4)
    have Hfx := Lib.hid (set_snd hf4 (.string s))
    have hs2 : s.size ≤ 20000 := by omega
    clear H4 Hc3 Hr3 Hf3 Hg3 hb4 hr4 hf4 hc4 hg4 hb5 hn hs hy
    have hb9 : Below w.heap.size (w4.setCell ⟨g, 1, none⟩ (.string s)) ((w4.setCell ⟨g, 1, none⟩ (.string s)).setRow w.heap.size #[.int .i64 (v), .string (s)]) := setRow_below (Below.refl _ _) (Nat.le_refl _) _
    have Hc9 := Lib.hid (Hcx.out.below hb9 hlt)
    have Hg9 := Lib.hid (grown_below Hgx.out hb9)
    have Hr9 := Lib.hid (setRow_at (c := #[.int .i64 (v), .string (s)]) Hrx.out)
    have hf9 := Hfx.out
    have hr9 := Hrx.out
    clear hb9 Hcx Hgx Hrx Hfx
    go_wp2_with (first | (refine wpList_load_row rfl 25 _ rfl g rfl 25 #[.int .i64 (v), .string (s)] (0, 0) _ hf9 Tryd.underlying25 rfl frame_info ?_) | (refine wpList_store_row rfl 25 _ _ rfl w.heap.size #[.int .i64 (v), .string (s)] rfl rfl 25 _ hr9 frame_info rfl (frame_one _ _) ?_) | fail)
    refine bodyPost_ret (v := frV (v) (s)) ?_ rfl ⟨v, s, ⟨by omega, by omega, hs2⟩, rfl, Hc9.out, Hg9.out⟩
    exact results_cell_row rfl _ _ w.heap.size _ #[.int .i64 (v), .string (s)] (0, 0) _ rfl Hr9.out Tryd.underlying25 rfl frame_info
  · have h1' : (x == 1) = false := beq_eq_false_iff_ne.2 h1
    have Hcx := Lib.hid Hc2.out
    have Hgx := Lib.hid Hg2.out
    have Hrx := Lib.hid Hr2.out
    have Hfx := Lib.hid Hf2.out
    clear Hc2 Hg2 Hr2 Hf2
    have hb9 : Below w.heap.size w2 ((w2).setRow w.heap.size #[.int .i64 (v), .string (p)]) := setRow_below (Below.refl _ _) (Nat.le_refl _) _
    have Hc9 := Lib.hid (Hcx.out.below hb9 hlt)
    have Hg9 := Lib.hid (grown_below Hgx.out hb9)
    have Hr9 := Lib.hid (setRow_at (c := #[.int .i64 (v), .string (p)]) Hrx.out)
    have hf9 := Hfx.out
    have hr9 := Hrx.out
    clear hb9 Hcx Hgx Hrx Hfx
    go_wp2_with (first | (refine wpList_load_row rfl 25 _ rfl g rfl 25 #[.int .i64 (v), .string (p)] (0, 0) _ hf9 Tryd.underlying25 rfl frame_info ?_) | (refine wpList_store_row rfl 25 _ _ rfl w.heap.size #[.int .i64 (v), .string (p)] rfl rfl 25 _ hr9 frame_info rfl (frame_one _ _) ?_) | fail)
    refine bodyPost_ret (v := frV (v) (p)) ?_ rfl ⟨v, p, ⟨by omega, by omega, by omega⟩, rfl, Hc9.out, Hg9.out⟩
    exact results_cell_row rfl _ _ w.heap.size _ #[.int .i64 (v), .string (p)] (0, 0) _ rfl Hr9.out Tryd.underlying25 rfl frame_info

theorem frameText_any (A : Option Addr) (len cap : Nat) (zs : List Int) (w : World) (hr : IsRow .u8 w A len cap zs) (hlen : len ≤ 1048576) :
    Calls Tryd.prog 9 #[.slice A len cap] w fun e w' => ∃ (v : Int) (p : ByteArray), (-1 ≤ v ∧ v ≤ 10 ∧ p.size ≤ 20000) ∧ e = .returned (frV v p) ∧ Below w.heap.size w w' := by
  have hb0 : Below w.heap.size w (w.alloc (.cells #[.int .i64 0, .string ⟨#[]⟩] 25)) := (Below.refl _ _).alloc (Nat.le_refl _) _
  have HN := Lib.hid (new_any A len cap zs _ (hr.below hb0) hlen)
  have Hr0 := Lib.hid (heap_alloc_new w (.cells #[.int .i64 0, .string ⟨#[]⟩] 25))
  have hz0 : w.heap.size < (w.alloc (.cells #[.int .i64 0, .string ⟨#[]⟩] 25)).heap.size := by simp
  clear hr
  go_enter Tryd.func9, Tryd.ntmps9
  go_wp2_with fail
  refine HN.out.mono ?_
  clear HN
  rintro e w1 ⟨c, rfl, hcw, hc1, hb1⟩
  generalize (fun j => zs.getD j 0) = z at hc1
  have HF := Lib.hid (any_frame c A len cap z w1 hc1)
  have Hr1 := Lib.hid (heap_kept hb1 hz0 Hr0.out)
  have Hb1 : Hid (Below w.heap.size w w1) := hb0.trans (hb1.mono (Nat.le_of_lt hz0))
  have hz1 : w.heap.size < w1.heap.size := Nat.lt_of_lt_of_le hz0 hb1.size
  clear hb0 hb1 hc1 Hr0
  go_wp2_with fail
  refine HF.out.mono ?_
  rintro e w2 ⟨v, p, hvp, rfl, hc2, hg2⟩
  have hr2 := kept_row hg2 hz1 (by omega) Hr1.out
  have hb2 : Below w.heap.size w w2 := Hb1.out.grown hg2 Hb1.out.size (fun b hb => by injection hb with hb; omega)
  have Hb3 := Lib.hid (setRow_below hb2 (Nat.le_refl _) #[.int .i64 v, .string p])
  have Hr3 := Lib.hid (setRow_at (c := #[.int .i64 v, .string p]) hr2)
  clear HF Hr1 Hb1 hc2 hg2 hb2
  unfold frV
  go_wp2_with (first | (refine wpList_store_row rfl 25 _ _ rfl w.heap.size #[.int .i64 v, .string p] rfl rfl 25 _ hr2 frame_info rfl (frame_one _ _) ?_) | fail)
  refine bodyPost_ret (v := frV v p) ?_ rfl ⟨v, p, hvp, rfl, Hb3.out⟩
  exact results_cell_row rfl _ _ w.heap.size _ #[.int .i64 v, .string p] (0, 0) _ rfl Hr3.out Tryd.underlying25 rfl frame_info
end Go.Proofs.YtljahpngngmecaaDoor.draw
