/- spec.l08Copy: a tree copied into memory of the call's own. -/
import Derived.Test.YtangdmjdjiddcaaDoorGA4
import Derived.Deep.WholeRow
import Derived.Test.YtangdmjdjiddcaaDoorRows
import Derived.ProofKit
import Derived.OpenShut
namespace Go.Proofs.YtangdmjdjiddcaaDoor.tree
open Go.ChangeShapes Go.WideShapes Go.ChangeAt Go.RowKit
set_option linter.unusedVariables false

set_option maxRecDepth 1000000 in
set_option maxHeartbeats 8000000 in
theorem spec_copy : ∀ (f : Nat) (t : T) (vs : List Value) (w : World), LiesS w f vs (row t) → weight t ≤ 1048576 →
    Calls Tryd.prog 68 #[.agg vs.toArray] w fun e w' => TreeOut' w.heap.size (f + 2) t e w' ∧ Below w.heap.size w w'
  | 0, t, vs, w, h, hsz => by
    obtain ⟨k, fl, n, s, ks, kids⟩ := t
    obtain ⟨_, _, _, _, _, _, _, _, _, _, _, _, _, _, f', hf, _⟩ := open_tree h
    omega
  | f + 1, t, vs, w, h, hsz => by
    obtain ⟨k, fl, n, s, ks, kids⟩ := t
    obtain ⟨A1, c1, A2, c2, rfl, wk, wn, hs, hc1, hc2, hr, hks, hc3, hc4, f', hf, hk⟩ := open_tree h
    obtain rfl : f = f' := by omega
    clear h hf
    rw [weight] at hsz
    obtain ⟨i0, hi, hz0, hz1, hz2⟩ := info_parts TrydinfoStr'
    obtain ⟨i1, hi', hy0, hy1, hy2⟩ := info_parts TrydinfoTree'
    have IH := Lib.hid (fun x vs w h h2 => spec_copy f x vs w h h2)
    obtain ⟨w2, hw2⟩ : ∃ w2, w2 = (((w.alloc (.cells #[.int .i64 k, .bool fl, .int .i64 n, .string s, .slice A1 ks.length c1, .slice A2 kids.length c2] 35)).alloc (.cells #[.int .i64 0, .bool false, .int .i64 0, .string ⟨#[]⟩, .slice none 0 0, .slice none 0 0] 35)).alloc (.cells #[.int .i64 k, .bool fl, .int .i64 n, .string s, .slice A1 ks.length c1, .slice A2 kids.length c2] 35)).alloc (.cells #[] 9) := ⟨_, rfl⟩
    have hsz2 : w2.heap.size = w.heap.size + 4 := by subst hw2; simp
    have hb2 : Below w.heap.size w w2 := by subst hw2; exact ((((Below.refl _ _).alloc (Nat.le_refl _) _).alloc (by simp) _).alloc (by simp <;> omega) _).alloc (by simp <;> omega) _
    have h20 : w2.heap[w.heap.size]? = some (.cells #[.int .i64 k, .bool fl, .int .i64 n, .string s, .slice A1 ks.length c1, .slice A2 kids.length c2] 35 (0, 0)) := by
      subst hw2
      rw [Below.heap_alloc _ _ _ (by simp <;> omega), Below.heap_alloc _ _ _ (by simp <;> omega), Below.heap_alloc _ _ _ (by simp)]
      exact heap_alloc_new w _
    have h21 : w2.heap[w.heap.size + 1]? = some (.cells #[.int .i64 0, .bool false, .int .i64 0, .string ⟨#[]⟩, .slice none 0 0, .slice none 0 0] 35 (0, 0)) := by
      subst hw2
      rw [Below.heap_alloc _ _ _ (by simp <;> omega), Below.heap_alloc _ _ _ (by simp)]
      have h := heap_alloc_new (w.alloc (.cells #[.int .i64 k, .bool fl, .int .i64 n, .string s, .slice A1 ks.length c1, .slice A2 kids.length c2] 35)) (.cells #[.int .i64 0, .bool false, .int .i64 0, .string ⟨#[]⟩, .slice none 0 0, .slice none 0 0] 35)
      simpa using h
    have h22 : w2.heap[w.heap.size + 1 + 1]? = some (.cells #[.int .i64 k, .bool fl, .int .i64 n, .string s, .slice A1 ks.length c1, .slice A2 kids.length c2] 35 (0, 0)) := by
      subst hw2
      rw [Below.heap_alloc _ _ _ (by simp)]
      have h := heap_alloc_new ((w.alloc (.cells #[.int .i64 k, .bool fl, .int .i64 n, .string s, .slice A1 ks.length c1, .slice A2 kids.length c2] 35)).alloc (.cells #[.int .i64 0, .bool false, .int .i64 0, .string ⟨#[]⟩, .slice none 0 0, .slice none 0 0] 35)) (.cells #[.int .i64 k, .bool fl, .int .i64 n, .string s, .slice A1 ks.length c1, .slice A2 kids.length c2] 35)
      simpa using h
    have hown2 : w2.ownsRow (w.heap.size + 3) 9 1 (.slice (some ⟨w.heap.size + 1 + 1 + 1, 0, none⟩) 0 0) 0 [] := by
      subst hw2
      have h := World.ownsRow_lit (size := 1) (base := w.heap.size + 3) (e := 9) (((w.alloc (.cells #[.int .i64 k, .bool fl, .int .i64 n, .string s, .slice A1 ks.length c1, .slice A2 kids.length c2] 35)).alloc (.cells #[.int .i64 0, .bool false, .int .i64 0, .string ⟨#[]⟩, .slice none 0 0, .slice none 0 0] 35)).alloc (.cells #[.int .i64 k, .bool fl, .int .i64 n, .string s, .slice A1 ks.length c1, .slice A2 kids.length c2] 35)) #[] 0 (by simp) (by simp [maxLen]) rfl
      simpa using h
    have hr2 := hr.below hb2
    have Hk := Lib.hid hk
    have Hw := Lib.hid (show (Lit.int .i64 k).wf = true ∧ (Lit.int .i64 n).wf = true ∧ s.size ≤ maxLen ∧ (∀ x ∈ ks, x.size ≤ maxLen) from ⟨wk, wn, hs, hks⟩)
    have Hc := Lib.hid (show kids.length ≤ c2 ∧ c2 ≤ maxLen from ⟨hc3, hc4⟩)
    have H20 := Lib.hid h20
    have H21 := Lib.hid h21
    have H22 := Lib.hid h22
    have Hb2 := Lib.hid hb2
    have Hsz2 := Lib.hid hsz2
    have Hw2 := Lib.hid hw2
    have Hown2 := Lib.hid hown2
    have Hr2 := Lib.hid hr2
    unfold maxLen at hc4 hc2
    clear hr hk hks wk wn hs h20 h21 h22 hb2 hsz2 hw2 hown2 hr2
    go_enter Tryd.func68, Tryd.ntmps68
    go_wp2_with (first | (rw [← Hw2.out]; refine wpList_append_rd rfl (.tmp 6) (.tmp 8) 24 rfl (w.heap.size + 3) 9 i0 (.string ⟨#[]⟩) 16 Tryd.underlying24 hi hz0 hz1 hz2 rfl _ 0 [] rfl Hown2.out A1 ks.length c1 (scells ks) rfl Hr2.out (strs_one ks) (by unfold maxLen; omega) (by omega) (by rw [Hsz2.out]; omega) ?_) | fail)
    intro v1 w3 hown3 hg3 hat3
    obtain ⟨Av, cv, rfl, _, _, _⟩ := Rd.of_own hown3
    have hg2lt : w.heap.size + 1 + 1 < w2.heap.size := by rw [Hsz2.out]; omega
    have hv1 : ∀ x, (Value.slice Av ks.length cv).ownBlock = some x → w.heap.size + 3 ≤ x := fun x hx => (hown3.lt x hx).1
    have hkeep : ∀ g, g < w.heap.size + 3 → w3.heap[g]? = w2.heap[g]? := fun g hg => hg3.block g (by rw [Hsz2.out]; omega) (by simp [Value.ownBlock]; omega)
    have h30 := (hkeep w.heap.size (by omega)).trans H20.out
    have h31 := (hkeep (w.heap.size + 1) (by omega)).trans H21.out
    have h32 := (hkeep (w.heap.size + 1 + 1) (by omega)).trans H22.out
    have hb3 : Below w.heap.size w w3 := Hb2.out.grown hg3 Hb2.out.size (fun b hb => by simp [Value.ownBlock] at hb; omega)
    have hs3 : w.heap.size + 3 < w3.heap.size := Nat.lt_of_lt_of_le (by rw [Hsz2.out]; omega) hg3.size
    obtain ⟨F1, ho1, hn1, hr1⟩ := (ownRow_strs (f := f + 1) hown3 Hw.out.2.2.2).own
    have p4 : w3.cell? ⟨w.heap.size + 1 + 1, 4, none⟩ = some (.slice A1 ks.length c1) := by rw [cell_of_row w3 _ 4 _ _ _ h32]; rfl
    have f4 := frozen_of_row w3 _ 4 _ _ h32
    obtain ⟨w4, hw4⟩ : ∃ w4, w4 = w3.setCell ⟨w.heap.size + 1 + 1, 4, none⟩ (.slice Av ks.length cv) := ⟨_, rfl⟩
    have h42 : w4.heap[w.heap.size + 1 + 1]? = some (.cells #[.int .i64 k, .bool fl, .int .i64 n, .string s, .slice Av ks.length cv, .slice A2 kids.length c2] 35 (0, 0)) := by subst hw4; exact heap_setCell_same _ _ _ _ _ _ h32
    have h41 := (show w4.heap[w.heap.size + 1]? = w3.heap[w.heap.size + 1]? by subst hw4; exact (Below.heap_setCell _ _ _ _ (by show w.heap.size + 1 ≠ w.heap.size + 1 + 1; omega))).trans h31
    have h40 := (show w4.heap[w.heap.size]? = w3.heap[w.heap.size]? by subst hw4; exact (Below.heap_setCell _ _ _ _ (by show w.heap.size ≠ w.heap.size + 1 + 1; omega))).trans h30
    have hs4 : w4.heap.size = w3.heap.size := by subst hw4; simp [World.setCell]
    have hb4 : Below w.heap.size w w4 := by subst hw4; exact hb3.setCell (by show w.heap.size ≤ w.heap.size + 1 + 1; omega) _
    have ho4 : Own w4 (w.heap.size + 3) (f + 3) (.slice Av ks.length cv) (.sl 1 ks.length (ks.map C.str)) F1 := by subst hw4; exact ho1.setCell_low (by omega)
    obtain ⟨w5, hw5⟩ : ∃ w5, w5 = w4.alloc (.cells #[] 35) := ⟨_, rfl⟩
    have hb45 : Below w4.heap.size w4 w5 := by subst hw5; exact (Below.refl _ _).alloc (Nat.le_refl _) _
    have h52 := heap_kept hb45 (heap_lt h42) h42
    have p5 : w5.cell? ⟨w.heap.size + 1 + 1, 5, none⟩ = some (.slice A2 kids.length c2) := by rw [cell_of_row w5 _ 5 _ _ _ h52]; rfl
    have f5 := frozen_of_row w5 _ 5 _ _ h52
    have hl5 : OwnRow w5 w3.heap.size (f + 2) 35 6 (.slice (some ⟨w3.heap.size, 0, none⟩) 0 0) 0 [] := by
      subst hw5
      have h := World.ownsRow_lit (size := 6) (base := w3.heap.size) (e := 35) w4 #[] 0 (by rw [hs4]; exact Nat.le_refl _) (by simp [maxLen]) rfl
      rw [hs4] at h
      exact OwnRow.of_lit h
    obtain ⟨w6, hw6⟩ : ∃ w6, w6 = w5.setCell ⟨w.heap.size + 1 + 1, 5, none⟩ (.slice (some ⟨w3.heap.size, 0, none⟩) 0 0) := ⟨_, rfl⟩
    have H62 := Lib.hid (show w6.heap[w.heap.size + 1 + 1]? = some (.cells #[.int .i64 k, .bool fl, .int .i64 n, .string s, .slice Av ks.length cv, .slice (some ⟨w3.heap.size, 0, none⟩) 0 0] 35 (0, 0)) by subst hw6; exact heap_setCell_same _ _ _ _ _ _ h52)
    have H61 := Lib.hid ((show w6.heap[w.heap.size + 1]? = w5.heap[w.heap.size + 1]? by subst hw6; exact (Below.heap_setCell _ _ _ _ (by show w.heap.size + 1 ≠ w.heap.size + 1 + 1; omega))).trans (heap_kept hb45 (heap_lt h41) h41))
    have H60 := Lib.hid ((show w6.heap[w.heap.size]? = w5.heap[w.heap.size]? by subst hw6; exact (Below.heap_setCell _ _ _ _ (by show w.heap.size ≠ w.heap.size + 1 + 1; omega))).trans (heap_kept hb45 (heap_lt h40) h40))
    have Hb6 := Lib.hid (show Below w.heap.size w w6 by subst hw6; exact (below_link hb4 hb45 hb4.size).setCell (by show w.heap.size ≤ w.heap.size + 1 + 1; omega) _)
    have Ho6 := Lib.hid (show Own w6 (w.heap.size + 3) (f + 3) (.slice Av ks.length cv) (.sl 1 ks.length (ks.map C.str)) F1 by subst hw6; exact (ho4.below hb45).setCell_low (by omega))
    have Hl6 := Lib.hid (show OwnRow w6 w3.heap.size (f + 2) 35 6 (.slice (some ⟨w3.heap.size, 0, none⟩) 0 0) 0 [] by subst hw6; exact own_row_setCell hl5 (by omega))
    have Hn1 := Lib.hid hn1
    have Hr1 := Lib.hid (show ∀ x ∈ F1, w.heap.size + 3 ≤ x ∧ x < w3.heap.size from hr1)
    have Hs3 := Lib.hid hs3
    have Hw6 := Lib.hid (show w6 = ((w3.setCell ⟨w.heap.size + 1 + 1, 4, none⟩ (.slice Av ks.length cv)).alloc (.cells #[] 35)).setCell ⟨w.heap.size + 1 + 1, 5, none⟩ (.slice (some ⟨w3.heap.size, 0, none⟩) 0 0) by rw [hw6, hw5, hw4])
    rw [hw5, hw4] at p5 f5
    have Hk6 := Lib.hid (Hk.out.below Hb6.out)
    have Hg6 := Lib.hid (show w3.heap.size ≤ w6.heap.size by have h := heap_lt H62.out; have := hb45.size; subst hw6; simpa [World.setCell, hs4] using this)
    clear hw4 hw5 hw6 h42 h41 h40 hs4 hb4 ho4 hb45 h52 hl5 hn1 hr1 hs3 ho1 hown3 hg3 hat3 hkeep h30 h31 h32 hb3 hg2lt hv1 H20 H21 H22 Hb2 Hw2 Hown2 Hr2
    go_wp2_with fail
    rw [← Hw6.out]
    go_loopw [4] (fun i wr => ∃ (j : Nat) (v2 : Value), j ≤ kids.length ∧ i = .int .i64 j ∧ wr.heap[w.heap.size + 1 + 1]? = some (.cells #[.int .i64 k, .bool fl, .int .i64 n, .string s, .slice Av ks.length cv, v2] 35 (0, 0)) ∧ OwnRow wr w3.heap.size (f + 2) 35 6 v2 j (rows (kids.take j)) ∧ Own wr (w.heap.size + 3) (f + 3) (.slice Av ks.length cv) (.sl 1 ks.length (ks.map C.str)) F1 ∧
      wr.heap[w.heap.size + 1]? = some (.cells #[.int .i64 0, .bool false, .int .i64 0, .string ⟨#[]⟩, .slice none 0 0, .slice none 0 0] 35 (0, 0)) ∧ wr.heap[w.heap.size]? = some (.cells #[.int .i64 k, .bool fl, .int .i64 n, .string s, .slice A1 ks.length c1, .slice A2 kids.length c2] 35 (0, 0)) ∧ w3.heap.size ≤ wr.heap.size ∧ Below w.heap.size w wr) (fun i _ => kids.length - (intOf i).toNat)
    case atStart => exact ⟨0, _, Nat.zero_le _, rfl, H62.out, by simpa [rows] using Hl6.out, Ho6.out, H61.out, H60.out, Hg6.out, Hb6.out⟩
    case round =>
      clear H62 Hl6 Ho6 H61 H60 Hb6 Hw6 Hk6 Hg6 p4 f4 p5 f5
      obtain ⟨j, v2, hj, rfl, h2, ⟨xs, F, hown, hcl, hos, hnd, hne⟩, hok, hres, hbx, hge, hbel⟩ := hrel
      obtain ⟨A2v, c2v, rfl⟩ := own_is_slice hown
      have b5 : wr.cell? ⟨w.heap.size, 5, none⟩ = some (.slice A2 kids.length c2) := by rw [cell_of_row wr _ 5 _ _ _ hbx]; rfl
      have p5 : wr.cell? ⟨w.heap.size + 1 + 1, 5, none⟩ = some (.slice A2v j c2v) := by rw [cell_of_row wr _ 5 _ _ _ h2]; rfl
      have hgl : w.heap.size + 1 + 1 < wr.heap.size := heap_lt h2
      by_cases hlt : j < kids.length
      · obtain ⟨g, o, rfl, hg, hkid⟩ := (Hk.out.below hbel) (by omega)
        obtain ⟨u0, u1, u2, u3, u4, u5, ⟨q0, q1, q2, q3, q4, q5⟩, hls⟩ := hkid j kids[j] (List.getElem?_eq_getElem hlt)
        have hwj : weight kids[j] ≤ 1048576 := by
          have h1 : weights kids = weights (kids.take (j + 1)) + weights (kids.drop (j + 1)) := by rw [← weights_append, List.take_append_drop]
          rw [List.take_succ_eq_append_getElem hlt, weights_append] at h1
          have h2 : weights [kids[j]] = weight kids[j] := by simp [weights]
          omega
        have Hrows := Lib.hid (show rows (kids.take (j + 1)) = rows (kids.take j) ++ row kids[j] by
          rw [List.take_succ_eq_append_getElem hlt, rows_append]
          simp [rows])
        have hbj : (j + 1) * 88 ≤ 140737488355328 := by omega
        have HC := Lib.hid (fun w' (hb : Below wr.heap.size wr w') => IH.out kids[j] _ w' (hls.below hb) hwj)
        have Hown := Lib.hid hown
        have Hos := Lib.hid hos
        have Hcl := Lib.hid hcl
        have Hnd := Lib.hid hnd
        have Hne := Lib.hid hne
        have Hok := Lib.hid hok
        have Hres := Lib.hid hres
        have Hbx := Lib.hid hbx
        have H2 := Lib.hid h2
        have Hge := Lib.hid hge
        have Hbel := Lib.hid hbel
        have Hgl := Lib.hid hgl
        have hnb : ∀ x, (Value.slice A2v j c2v).ownBlock = some x → w3.heap.size ≤ x := fun x hx => (Hown.out.lt x hx).1
        have Hnb := Lib.hid hnb
        clear hkid hls hg hwj hown hos hcl hnd hne hok hres hbx h2 hge hbel hnb
        generalize kids[j] = x at HC Hrows
        go_wp2_with fail
        go_region_law (first | (refine step_append_at rfl (.tmp 21) (.tmp 28) 33 rfl w3.heap.size 35 i1 _ 6 88 Tryd.underlying33 hi' hy0 hy1 hy2 rfl (by decide) _ j xs rfl hown8 ⟨w7.heap.size, 0, none⟩ 1 1 [x0, x1, x2, x3, x4, x5] rfl rfl (by exact lit_cells _ _ _) hone8 (by unfold maxLen; omega) hbj hge8 ?_; intro v3 w9 hown9 hg9 hat9; obtain ⟨A9, c9, rfl⟩ := own_is_slice hown9; have h92 := (hg9.block (w.heap.size + 1 + 1) hgl8 (fun e => by have h1 := Hnb.out _ e.symm; have h2 := Hs3.out; omega)).trans h82; have p9 : w9.cell? ⟨w.heap.size + 1 + 1, 5, none⟩ = some (.slice A2v j c2v) := (Row6.of h92).2.2.2.2.2; have f9 := frozen_of_row w9 _ 5 _ _ h92) | (go_simp; go_at_call 68; refine (HC.out _ (Below.refl _ _).drew).mono ?_; rintro e w7 ⟨⟨us, G, rfl, hoG, hnG⟩, hb7⟩; obtain ⟨x0, x1, x2, x3, x4, x5, rfl⟩ := six_of (hoG.1.trans (row_length _)); have hbr : Below wr.heap.size wr w7 := (Below.refl _ _).drew.trans (hb7.mono (Nat.le_refl _)); have hba : Below w7.heap.size w7 (w7.alloc (.cells #[x0, x1, x2, x3, x4, x5] 35)) := (Below.refl _ _).alloc (Nat.le_refl _) _; have hb8 := below_link hbr hba hbr.size; have hown8 := own_below' Hown.out hb8; have hone8 := hoG.ones; have hge8 : w3.heap.size ≤ (w7.alloc (.cells #[x0, x1, x2, x3, x4, x5] 35)).heap.size := Nat.le_trans Hge.out hb8.size; have hgl8 : w.heap.size + 1 + 1 < (w7.alloc (.cells #[x0, x1, x2, x3, x4, x5] 35)).heap.size := Nat.lt_of_lt_of_le Hgl.out hb8.size; have h82 := heap_kept hb8 Hgl.out H2.out; have h72 := heap_kept hbr Hgl.out H2.out; have p7 : w7.cell? ⟨w.heap.size + 1 + 1, 5, none⟩ = some (.slice A2v j c2v) := (Row6.of h72).2.2.2.2.2; have p8 : (w7.alloc (.cells #[x0, x1, x2, x3, x4, x5] 35)).cell? ⟨w.heap.size + 1 + 1, 5, none⟩ = some (.slice A2v j c2v) := (Row6.of h82).2.2.2.2.2))
        all_goals
          have h93 : (w9.setCell ⟨w.heap.size + 1 + 1, 5, none⟩ (.slice A9 (j + 1) c9)).heap[w.heap.size + 1 + 1]? = some (.cells #[.int .i64 k, .bool fl, .int .i64 n, .string s, .slice Av ks.length cv, .slice A9 (j + 1) c9] 35 (0, 0)) := heap_setCell_same _ _ _ _ _ _ h92
          have hrow9 : OwnRow w9 w3.heap.size (f + 2) 35 6 (.slice A9 (j + 1) c9) (j + 1) (rows (kids.take j) ++ row x) := OwnRow.grow Hcl.out (Hos.out.below hb8) Hnd.out Hne.out (by rw [row_length]) ((hoG.below hba).lower Hge.out) hnG (fun y hy hyG => by have h1 := (Hos.out.range y hy).2; have h2 : wr.heap.size ≤ y := (hoG.range y hyG).1; omega) (fun y hy e => by have h1 := (Hown.out.lt y e).2; have h2 : wr.heap.size ≤ y := (hoG.range y hy).1; omega) hown9 hg9 hat9
          have Hrow9 := Lib.hid (own_row_setCell (o := 5) (u := .slice A9 (j + 1) c9) hrow9 (show w.heap.size + 1 + 1 < w3.heap.size by have := Hs3.out; omega))
          have Hok9 := Lib.hid (((Hok.out.below hb8).kept (fun y hy => hg9.block y (Nat.lt_of_lt_of_le ((Hok.out.range y hy).2) hb8.size) (fun e => by have h1 := Hnb.out _ e.symm; have h2 := (Hr1.out y hy).2; omega))).setCell_low (o := 5) (u := .slice A9 (j + 1) c9) (show w.heap.size + 1 + 1 < w.heap.size + 3 by omega))
          have Hres9 := Lib.hid ((Below.heap_setCell w9 ⟨w.heap.size + 1 + 1, 5, none⟩ (.slice A9 (j + 1) c9) (w.heap.size + 1) (by show w.heap.size + 1 ≠ w.heap.size + 1 + 1; omega)).trans ((hg9.block (w.heap.size + 1) (by omega) (fun e => by have h1 := Hnb.out _ e.symm; have h2 := Hs3.out; omega)).trans (heap_kept hb8 (heap_lt Hres.out) Hres.out)))
          have Hbx9 := Lib.hid ((Below.heap_setCell w9 ⟨w.heap.size + 1 + 1, 5, none⟩ (.slice A9 (j + 1) c9) w.heap.size (by show w.heap.size ≠ w.heap.size + 1 + 1; omega)).trans ((hg9.block w.heap.size (by omega) (fun e => by have h1 := Hnb.out _ e.symm; have h2 := Hs3.out; omega)).trans (heap_kept hb8 (heap_lt Hbx.out) Hbx.out)))
          have Hge9 := Lib.hid (show w3.heap.size ≤ (w9.setCell ⟨w.heap.size + 1 + 1, 5, none⟩ (.slice A9 (j + 1) c9)).heap.size by simpa [World.setCell] using Nat.le_trans hge8 hg9.size)
          have Hbel9 := Lib.hid (show Below w.heap.size w (w9.setCell ⟨w.heap.size + 1 + 1, 5, none⟩ (.slice A9 (j + 1) c9)) from ((below_link Hbel.out hb8 Hbel.out.size).grown hg9 (Nat.le_trans Hbel.out.size hb8.size) (fun b hb => by have h1 := Hnb.out _ hb; have h2 := Hs3.out; omega)).setCell (by show w.heap.size ≤ w.heap.size + 1 + 1; omega) _)
          have H93 := Lib.hid h93
          clear h93 hrow9 h92 p9 f9 hown9 hg9 hat9 h82 h72 p7 p8 hown8 hone8 hge8 hgl8 hoG hnG hb7 hbr hba hb8 q0 q1 q2 q3 q4 q5 b5 p5
          go_wp2_with fail
          go_roundw
          case rel => exact ⟨j + 1, _, by omega, by go_num, H93.out, by rw [Hrows.out]; exact Hrow9.out, Hok9.out, Hres9.out, Hbx9.out, Hge9.out, Hbel9.out⟩
          case measure => simp [intOf]; omega
      · obtain rfl : j = kids.length := by omega
        rw [List.take_of_length_le (Nat.le_refl _)] at hcl hos
        obtain ⟨F2, hkid, hn2, hr2⟩ := (show OwnRow wr w3.heap.size (f + 2) 35 6 (.slice A2v kids.length c2v) kids.length (rows kids) from ⟨xs, F, hown, hcl, hos, hnd, hne⟩).own
        have Hkid := Lib.hid hkid
        have Hn2 := Lib.hid hn2
        have Hr2 := Lib.hid hr2
        have Hok := Lib.hid hok
        have Hres := Lib.hid hres
        have Hbel := Lib.hid hbel
        have h2' := h2
        have hres' := hres
        clear hown hcl hos hnd hne hkid hn2 hr2 hok hres hbx hge hbel h2
        go_wp2_with (first | (refine wpList_load_row rfl 35 _ rfl (w.heap.size + 1 + 1) rfl 35 #[.int .i64 k, .bool fl, .int .i64 n, .string s, .slice Av ks.length cv, .slice A2v kids.length c2v] (0, 0) _ h2' Tryd.underlying35 rfl tree_size' ?_) | (refine wpList_store_row rfl 35 _ _ rfl (w.heap.size + 1) #[.int .i64 k, .bool fl, .int .i64 n, .string s, .slice Av ks.length cv, .slice A2v kids.length c2v] rfl rfl 35 _ hres' tree_size' rfl (by simp [Value.oneCell']) ?_) | fail)
        have hok6 := ((Hok.out.setRow_low (c := #[.int .i64 k, .bool fl, .int .i64 n, .string s, .slice Av ks.length cv, .slice A2v kids.length c2v]) (show w.heap.size + 1 < w.heap.size + 3 by omega)).lower (B' := w.heap.size) (by omega))
        have hkid6 := ((Hkid.out.setRow_low (c := #[.int .i64 k, .bool fl, .int .i64 n, .string s, .slice Av ks.length cv, .slice A2v kids.length c2v]) (show w.heap.size + 1 < w3.heap.size by have := Hs3.out; omega)).lower (B' := w.heap.size) (by have := Hs3.out; omega))
        obtain ⟨F, ho, hnd, _⟩ := own_tree (fl := fl) Hw.out.1 Hw.out.2.1 Hw.out.2.2.1 hok6 hkid6 Hn1.out Hn2.out (fun y hy hy2 => by have h1 := (Hr1.out y hy).2; have h2 := (Hr2.out y hy2).1; omega)
        refine bodyPost_ret (v := .agg #[.int .i64 k, .bool fl, .int .i64 n, .string s, .slice Av ks.length cv, .slice A2v kids.length c2v]) ?_ rfl ⟨⟨_, F, rfl, ho, hnd⟩, setRow_below Hbel.out (by omega) _⟩
        exact results_cell_row rfl _ _ (w.heap.size + 1) _ _ (0, 0) _ rfl (setRow_at Hres.out) Tryd.underlying35 rfl tree_size'
end Go.Proofs.YtangdmjdjiddcaaDoor.tree
