/- impl.SignsOf. -/
import Derived.Test.YtlnfbpdicjcpgaaGreatDoorSignI
import Derived.Test.YtlnfbpdicjcpgaaGreatDoorGTx
namespace Go.Proofs.YtlnfbpdicjcpgaaGreatDoor.sign
open Go.ChangeShapes Go.WideShapes Go.ChangeAt Go.RowKit
set_option linter.unusedVariables false

theorem all_text {s : ByteArray} (h : (textF s).code ≠ 0) : allF s = ([], textF s) := by
  by_cases h1 : 20000 < s.size
  · rw [all_long h1, text_long h1]
  · cases hb : badAt s 0 with
    | some q => rw [all_bad h1 hb, text_bad h1 hb]
    | none => rw [text_ok h1 hb] at h; exact absurd rfl h
theorem all_go {s : ByteArray} (h : (textF s).code = 0) : textF s = f0 ∧ ¬ 20000 < s.size ∧ badAt s 0 = none := by
  by_cases h1 : 20000 < s.size
  · rw [text_long h1] at h; exact absurd h (by decide)
  · cases hb : badAt s 0 with
    | some q => rw [text_bad h1 hb] at h; exact absurd (show (2 : Int) = 0 from h) (by decide)
    | none => exact ⟨text_ok h1 hb, h1, rfl⟩
set_option maxHeartbeats 8000000 in
set_option maxRecDepth 100000 in
theorem impl_fault (s : ByteArray) (w : World) (hs : s.size ≤ 1048576) (hT : rune.Tabs w) (hf : (textF s).code ≠ 0) :
    Calls Tryz.prog 7 #[.string s] w (Signs s w) := by
  unfold Signs
  rw [all_text hf]
  have hg : (w.alloc (.cells (fC f0) 32)).heap[w.heap.size]? = some (.cells (fC f0) 32 (0, 0)) := heap_alloc_new w _
  have Hb := Lib.hid ((Below.refl w.heap.size w).alloc (Nat.le_refl _) (.cells (fC f0) 32))
  have HX := Lib.hid (text_fault s (w.alloc (.cells (fC f0) 32)) hs (hT.below ((Below.refl w.heap.size w).alloc (Nat.le_refl _) _)))
  have Hg := Lib.hid hg
  generalize textF s = f at HX hf ⊢
  obtain ⟨k, a, p⟩ := f
  have hk : ¬ k = 0 := hf
  have ek : (k == 0) = false := by simpa using hk
  unfold fV fC at HX
  simp only at HX
  clear hT hg hf
  go_enter Tryz.func7, Tryz.ntmps7
  go_wp2_with fail
  refine HX.out.mono ?_
  rintro e w1 ⟨rfl, hb1⟩
  have hb2 := (Hb.out.trans (hb1.mono (by simp))).alloc (Hb.out.trans (hb1.mono (by simp))).size (.cells #[.int .i64 k, .int .i64 a, .string p] 32)
  have hg1 := heap_kept hb1 (by simp) Hg.out
  have hlt : w.heap.size < w1.heap.size := (Array.getElem?_eq_some_iff.1 hg1).1
  have hg2 : (w1.alloc (.cells #[.int .i64 k, .int .i64 a, .string p] 32)).heap[w.heap.size]? = some (.cells #[.int .i64 0, .int .i64 0, .string ⟨#[]⟩] 32 (0, 0)) := (heap_alloc_old w1 _ hlt).trans hg1
  have hgf := heap_alloc_new w1 (.cells #[.int .i64 k, .int .i64 a, .string p] 32)
  clear HX Hb Hg hb1 hg1
  generalize hW : w1.alloc (.cells #[.int .i64 k, .int .i64 a, .string p] 32) = W at *
  have hne : ¬ w.heap.size = w1.heap.size := by omega
  obtain ⟨⟨c0, c1, c2⟩, z0, z1, z2⟩ := three_cells hg2
  obtain ⟨⟨d0, d1, d2⟩, y0, y1, y2⟩ := three_cells hgf
  go_wp2_with fail
  have Hg3 := Lib.hid (set_three hg2 (.int .i64 k) (.int .i64 a) (.string p))
  have Hb3 : Hid (Below w.heap.size w (((W.setCell ⟨w.heap.size, 0, none⟩ (.int .i64 k)).setCell ⟨w.heap.size, 1, none⟩ (.int .i64 a)).setCell ⟨w.heap.size, 2, none⟩ (.string p))) := ((hb2.setCell (p := ⟨w.heap.size, 0, none⟩) (Nat.le_refl _) _).setCell (p := ⟨w.heap.size, 1, none⟩) (Nat.le_refl _) _).setCell (p := ⟨w.heap.size, 2, none⟩) (Nat.le_refl _) _
  clear hb2 hg2 hgf
  go_region
  go_wp2_with fail
  refine bodyPost_ret (v := .tuple #[.slice none 0 0, fV ⟨k, a, p⟩]) ?_ rfl ⟨.slice none 0 0, rfl, World.ownsRow_nil _ _ _ _, Hb3.out.drew⟩
  exact ret_all rfl rfl rfl Hg3.out
set_option maxHeartbeats 8000000 in
set_option maxRecDepth 100000 in
theorem impl_go (s : ByteArray) (w : World) (hs : s.size ≤ 1048576) (hT : rune.Tabs w) (hE : readq.ErrVar w "strconv.ErrSyntax") (hRg : whole.ErrVar w "strconv.ErrRange") (hf : (textF s).code = 0) :
    Calls Tryz.prog 7 #[.string s] w (Signs s w) := by
  obtain ⟨i0, hi, hz0, hz1, hz2⟩ := info4 TryzinfoS
  unfold Signs
  obtain ⟨hf0, hlong, hbad⟩ := all_go hf
  have HN : Hid (∀ q, signsF s 0 [] = .error q → allF s = ([], ⟨3, q, ⟨#[]⟩⟩)) := fun q h => all_sign hlong hbad h
  have HY : Hid (∀ l, signsF s 0 [] = .ok l → allF s = (l, f0)) := fun l h => all_ok hlong hbad h
  have hg : (w.alloc (.cells (fC f0) 32)).heap[w.heap.size]? = some (.cells (fC f0) 32 (0, 0)) := heap_alloc_new w _
  have Hb := Lib.hid ((Below.refl w.heap.size w).alloc (Nat.le_refl _) (.cells (fC f0) 32))
  have HX := Lib.hid (text_fault s (w.alloc (.cells (fC f0) 32)) hs (hT.below ((Below.refl w.heap.size w).alloc (Nat.le_refl _) _)))
  have Hg := Lib.hid hg
  have HS := Lib.hid (fun (p : Nat) w1 (hb : Below w.heap.size w w1) => impl_sign s (p : Int) w1 hs (hT.below hb) (hE.below hb) (hRg.below hb))
  have HB := Lib.hid (fun (p : Nat) (hp : p ≤ s.size) w => blanks_any s p w hs hp)
  rw [hf0] at HX
  unfold fV fC f0 at HX
  simp only at HX
  clear hT hE hRg hg hf hf0 hbad
  go_enter Tryz.func7, Tryz.ntmps7
  go_wp2_with fail
  refine HX.out.mono ?_
  rintro e w1 ⟨rfl, hb1⟩
  have hb2 := (Hb.out.trans (hb1.mono (by simp))).alloc (Hb.out.trans (hb1.mono (by simp))).size (.cells #[.int .i64 0, .int .i64 0, .string ⟨#[]⟩] 32)
  have hg1 := heap_kept hb1 (by simp) Hg.out
  have hlt : w.heap.size < w1.heap.size := (Array.getElem?_eq_some_iff.1 hg1).1
  have hg2 : (w1.alloc (.cells #[.int .i64 0, .int .i64 0, .string ⟨#[]⟩] 32)).heap[w.heap.size]? = some (.cells (fC f0) 32 (0, 0)) := (heap_alloc_old w1 _ hlt).trans hg1
  have hgf := heap_alloc_new w1 (.cells #[.int .i64 0, .int .i64 0, .string ⟨#[]⟩] 32)
  clear HX Hb Hg hb1 hg1
  have hWz : (w1.alloc (.cells #[.int .i64 0, .int .i64 0, .string ⟨#[]⟩] 32)).heap.size = w1.heap.size + 1 := by simp
  generalize hW : w1.alloc (.cells #[.int .i64 0, .int .i64 0, .string ⟨#[]⟩] 32) = W at *
  have gV1 := setRow_at (c := #[.int .i64 0, .int .i64 0, .string ⟨#[]⟩]) hgf
  have gV0 : (W.setRow w1.heap.size #[.int .i64 0, .int .i64 0, .string ⟨#[]⟩]).heap[w.heap.size]? = some (.cells (fC f0) 32 (0, 0)) := (setRow_other W w1.heap.size w.heap.size _ (by omega)).trans hg2
  have hbV : Below w.heap.size w (W.setRow w1.heap.size #[.int .i64 0, .int .i64 0, .string ⟨#[]⟩]) := setRow_below hb2 (by omega) _
  have hVz : (W.setRow w1.heap.size #[.int .i64 0, .int .i64 0, .string ⟨#[]⟩]).heap.size = w1.heap.size + 1 := by rw [← hWz]; simp [World.setRow]
  have HVz := Lib.hid hVz
  clear hVz hWz hb2 hg2
  go_wp2_with (first | (refine wpList_store_row rfl 32 _ _ rfl w1.heap.size #[.int .i64 0, .int .i64 0, .string ⟨#[]⟩] rfl rfl 32 _ hgf fault_info rfl (fault_one _ _ _) ?_; generalize hV0 : World.setRow W w1.heap.size #[.int .i64 0, .int .i64 0, .string ⟨#[]⟩] = V at *; obtain ⟨⟨d0, d1, d2⟩, y0, y1, y2⟩ := three_cells gV1) | fail)
  refine (HB.out 0 (Nat.zero_le _) _).mono ?_
  rintro e w2 ⟨rfl, hb4⟩
  have hown1 : (V.alloc (.cells #[] 37)).ownsRow (w.heap.size + 1) 37 4 (.slice (some ⟨V.heap.size, 0, none⟩) 0 0) 0 (rowsL []) := World.ownsRow_lit V #[] 0 (by have := HVz.out; omega) (by simp [maxLen]) rfl
  have hb3 := hbV.alloc hbV.size (.cells #[] 37)
  have hg3 : (V.alloc (.cells #[] 37)).heap[w.heap.size]? = some (.cells (fC f0) 32 (0, 0)) := (heap_alloc_old V _ (by have := HVz.out; omega)).trans gV0
  have Hown2 := Lib.hid (own_keeps hown1 hb4)
  have Hb4 := Lib.hid (hb3.trans (hb4.mono hb3.size))
  have Hg4 := Lib.hid (heap_kept hb4 (Array.getElem?_eq_some_iff.1 hg3).1 hg3)
  clear hown1 hb3 hg3 hgf gV1 gV0 hbV hV0
  have hsk := skip_at _ s 0 rfl (Nat.zero_le _)
  have Hsk := Lib.hid hsk
  clear hb4 hsk d0 d1 d2 y0 y1 y2 hW
  generalize skip s 0 = q0 at *
  go_wp2_with fail
  go_loopw [5, 6] (fun v i wr => ∃ (p : Nat) (l : List Sg), i = .int .i64 p ∧ p ≤ s.size ∧ l.length ≤ p ∧ Hid ((p < s.size → ¬ blank (at_ s p)) ∧ signsF s p l = signsF s 0 []) ∧ Hid (wr.ownsRow (w.heap.size + 1) 37 4 v l.length (rowsL l)) ∧ Hid (wr.heap[w.heap.size]? = some (.cells (fC f0) 32 (0, 0))) ∧ Hid (Below w.heap.size w wr)) (fun _ i _ => s.size - (intOf i).toNat)
  case atStart => exact ⟨q0, [], rfl, Hsk.out.2.1, Nat.zero_le _, ⟨Hsk.out.2.2.1, (Hsk.out.2.2.2 []).symm⟩, Hown2, Hg4, Hb4⟩
  case round =>
    clear Hown2 Hg4 Hb4 Hsk
    obtain ⟨p, l, rfl, hp, hl, hr, Hown, Hg, Hb⟩ := hrel
    by_cases hplt : p < s.size
    · have HC := Lib.hid (HS.out p wr Hb.out)
      rw [sign_in hplt] at HC
      by_cases hn : (signN s p).2 < 0
      · have HR := Lib.hid (HN.out p (hr.out.2.symm.trans (signs_bad hplt (hr.out.1 hplt) hn)))
        clear hr
        generalize signN s p = r at HC hn
        obtain ⟨⟨k, t, n, a⟩, y⟩ := r
        have hn' : y < 0 := hn
        unfold sgR sgV sgC at HC
        simp only at HC
        clear hn
        go_wp2_with fail
        refine HC.out.mono ?_
        rintro e w3 ⟨rfl, hb3⟩
        have hb5 := (Hb.out.trans (hb3.mono Hb.out.size)).alloc (Hb.out.trans (hb3.mono Hb.out.size)).size (.cells #[.int .i64 k, .string t, .int .i64 n, .int .i64 a] 37)
        have hg4 := heap_kept hb3 (Array.getElem?_eq_some_iff.1 Hg.out).1 Hg.out
        have hg5 : (w3.alloc (.cells #[.int .i64 k, .string t, .int .i64 n, .int .i64 a] 37)).heap[w.heap.size]? = some (.cells (fC f0) 32 (0, 0)) := (heap_alloc_old w3 _ (Array.getElem?_eq_some_iff.1 hg4).1).trans hg4
        clear HC hb3 hg4
        go_wp2_with (first | (refine wpList_store_row rfl 32 _ _ rfl w.heap.size #[.int .i64 3, .int .i64 p, .string ⟨#[]⟩] rfl rfl 32 _ hg5 fault_info rfl (fault_one _ _ _) ?_) | fail)
        refine bodyPost_ret (v := .tuple #[.slice none 0 0, fV ⟨3, p, ⟨#[]⟩⟩]) ?_ rfl ⟨.slice none 0 0, by rw [HR.out], by rw [HR.out]; exact World.ownsRow_nil _ _ _ _, setRow_below hb5 (Nat.le_refl _) _⟩
        exact ret_all rfl rfl rfl (setRow_at hg5)
      · rcases sign_bd s p hplt with e | ⟨q, hq, hpq, hqs⟩
        · rw [e] at hn; exact absurd (by decide) hn
        have hgo := (signs_go (l := l) hplt (hr.out.1 hplt) hq hpq).symm.trans hr.out.2
        have hsk := skip_at _ s q rfl hqs
        have HB2 := Lib.hid (fun w => HB.out q hqs w)
        have hskl := (hsk.2.2.2 (l ++ [(signN s p).1])).symm.trans hgo
        have Hsk : Hid (skip s q ≤ s.size ∧ q ≤ skip s q ∧ (skip s q < s.size → ¬ blank (at_ s (skip s q))) ∧ signsF s (skip s q) (l ++ [(signN s p).1]) = signsF s 0 []) := ⟨hsk.2.1, hsk.1, hsk.2.2.1, hskl⟩
        clear hr hgo hskl hn hsk
        generalize signN s p = r at HC hq Hsk
        obtain ⟨⟨k, t, n, a⟩, y⟩ := r
        obtain rfl : y = (q : Int) := hq
        unfold sgR sgV sgC at HC
        simp only at HC Hsk
        generalize hq2 : skip s q = q2 at HB2 Hsk
        clear hq2
        go_wp2_with fail
        refine HC.out.mono ?_
        rintro e w3 ⟨rfl, hb3⟩
        have hb4 := Hb.out.trans (hb3.mono Hb.out.size)
        have hb5 := hb4.alloc hb4.size (.cells #[.int .i64 k, .string t, .int .i64 n, .int .i64 a] 37)
        have hg4 := heap_kept hb3 (Array.getElem?_eq_some_iff.1 Hg.out).1 Hg.out
        have hg5 : (w3.alloc (.cells #[.int .i64 k, .string t, .int .i64 n, .int .i64 a] 37)).heap[w.heap.size]? = some (.cells (fC f0) 32 (0, 0)) := (heap_alloc_old w3 _ (Array.getElem?_eq_some_iff.1 hg4).1).trans hg4
        have hown5 := (own_keeps Hown.out hb3).alloc (.cells #[.int .i64 k, .string t, .int .i64 n, .int .i64 a] 37)
        have hgs := heap_alloc_new w3 (.cells #[.int .i64 k, .string t, .int .i64 n, .int .i64 a] 37)
        have hlt3 : w.heap.size < w3.heap.size := (Array.getElem?_eq_some_iff.1 hg4).1
        clear HC hb3 hg4 hb4 Hown Hg Hb
        have hsz5 : (w3.alloc (.cells #[.int .i64 k, .string t, .int .i64 n, .int .i64 a] 37)).heap.size = w3.heap.size + 1 := by simp
        have Hown5 := Lib.hid hown5
        have Hg5 := Lib.hid hg5
        have Hb5 := Lib.hid hb5
        clear hown5 hg5 hb5
        have Hsz5 := Lib.hid hsz5
        clear hsz5
        generalize hV : w3.alloc (.cells #[.int .i64 k, .string t, .int .i64 n, .int .i64 a] 37) = V at *
        go_wp2_with (first | (refine wpList_load_row rfl 37 _ rfl w3.heap.size rfl 37 #[.int .i64 k, .string t, .int .i64 n, .int .i64 a] (0, 0) _ hgs Tryz.underlying37 rfl sign_info ?_) | (at_builtin; refine wpList_append_own _ rfl (.tmp 32) (.tmp 34) 30 rfl (w.heap.size + 1) 37 i0 _ 4 40 Tryz.underlying30 hi hz0 hz1 hz2 rfl (by decide) _ l.length _ rfl (Hown5.out.alloc _) ⟨V.heap.size, 0, none⟩ 1 1 (sgL ⟨k, t, n, a⟩) rfl rfl (by exact lit_cells _ _ _) (by rw [← rowsL_one]; exact rowsL_cell _) (by unfold maxLen; omega) (by omega) (by have := Hsz5.out; simp; omega) ?_) | fail)
        clear hV
        intro v4 w4 hown4 hg4 _
        have hb6 := (Hb5.out.alloc Hb5.out.size _).grown hg4 (by have := Hb5.out.size; simp; omega) (fun b hb => by have := (Hown5.out.lt b hb).1; omega)
        have hg6 := heap_grown (Hown5.out.alloc _) (by omega) hg4 ((heap_alloc_old V _ (Array.getElem?_eq_some_iff.1 Hg5.out).1).trans Hg5.out)
        have hown6 : w4.ownsRow (w.heap.size + 1) 37 4 v4 (l ++ [(⟨k, t, n, a⟩ : Sg)]).length (rowsL (l ++ [(⟨k, t, n, a⟩ : Sg)])) := by
          rw [rowsL_append, rowsL_one, List.length_append]
          exact hown4
        have Hb6 := Lib.hid hb6
        have Hg6 := Lib.hid hg6
        have Hown6 := Lib.hid hown6
        clear hown4 hg4 Hown5 Hg5 Hb5 hgs hb6 hg6 hown6
        go_wp2_with fail
        refine (HB2.out _).mono ?_
        rintro e w5 ⟨rfl, hb5⟩
        have Hb7 := Lib.hid (Hb6.out.trans (hb5.mono Hb6.out.size))
        have Hg7 := Lib.hid (heap_kept hb5 (Array.getElem?_eq_some_iff.1 Hg6.out).1 Hg6.out)
        have Hown7 := Lib.hid (own_keeps Hown6.out hb5)
        have hq2s := Hsk.out.1
        have hqq2 := Hsk.out.2.1
        have Hr := Lib.hid Hsk.out.2.2
        clear hb5 Hb6 Hg6 Hown6 HB2 Hsk
        go_wp2_with fail
        go_roundw
        case rel => exact ⟨q2, l ++ [(⟨k, t, n, a⟩ : Sg)], rfl, hq2s, by rw [List.length_append]; simp; omega, Hr, Hown7, Hg7, Hb7⟩
        case measure => simp [intOf]; omega
    · have hpe : s.size ≤ p := by omega
      have HR := Lib.hid (HY.out l (hr.out.2.symm.trans (signs_end hpe)))
      have hg := Hg.out
      clear hr
      go_wp2_with (first | (refine wpList_store_row rfl 32 _ _ rfl w.heap.size (fC f0) rfl rfl 32 _ hg fault_info rfl (fault_one _ _ _) ?_) | fail)
      refine bodyPost_ret (v := .tuple #[u5, fV f0]) ?_ rfl ⟨_, by rw [HR.out], by rw [HR.out]; exact own_down (own_setRow Hown.out (Nat.lt_succ_self _) _) (Nat.le_succ _), setRow_below Hb.out (Nat.le_refl _) _⟩
      exact ret_all rfl rfl rfl (setRow_at hg)
theorem impl_signs (s : ByteArray) (w : World) (hs : s.size ≤ 1048576) (hT : rune.Tabs w) (hE : readq.ErrVar w "strconv.ErrSyntax") (hRg : whole.ErrVar w "strconv.ErrRange") :
    Calls Tryz.prog 7 #[.string s] w (Signs s w) := by
  by_cases h : (textF s).code = 0
  · exact impl_go s w hs hT hE hRg h
  · exact impl_fault s w hs hT h
end Go.Proofs.YtlnfbpdicjcpgaaGreatDoor.sign
