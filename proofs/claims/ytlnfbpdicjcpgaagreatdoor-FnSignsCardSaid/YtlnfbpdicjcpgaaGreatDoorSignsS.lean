/- spec.SignsOf. -/
import Derived.Test.YtlnfbpdicjcpgaaGreatDoorSignS
import Derived.Test.YtlnfbpdicjcpgaaGreatDoorGTx
namespace Go.Proofs.YtlnfbpdicjcpgaaGreatDoor.sign
open Go.ChangeShapes Go.WideShapes Go.ChangeAt Go.RowKit
set_option linter.unusedVariables false

theorem blank_bools (x : Int) (h : ¬ blank x) : (x == 32) = false ∧ (x == 9) = false ∧ (x == 10) = false ∧ (x == 13) = false := by
  unfold blank at h
  refine ⟨?_, ?_, ?_, ?_⟩ <;> (rw [beq_eq_false_iff_ne]; omega)
/-- The world behind the two blocks that are laid first. -/
theorem two_laid (w : World) : ((w.alloc (.cells (fC f0) 32)).alloc (.cells #[] 37)).heap[w.heap.size]? = some (.cells (fC f0) 32 (0, 0)) ∧ ((w.alloc (.cells (fC f0) 32)).alloc (.cells #[] 37)).heap[w.heap.size + 1]? = some (.cells #[] 37 (0, 0)) ∧ Below w.heap.size w ((w.alloc (.cells (fC f0) 32)).alloc (.cells #[] 37)) := by
  have e : (w.alloc (.cells (fC f0) 32)).heap.size = w.heap.size + 1 := by simp
  refine ⟨?_, ?_, ((Below.refl _ _).alloc (Nat.le_refl _) _).alloc (by simp) _⟩
  · rw [heap_alloc_old _ _ (by simp), heap_alloc_new]
  · rw [← e]; exact heap_alloc_new _ _
set_option maxHeartbeats 8000000 in
set_option maxRecDepth 100000 in
theorem spec_signs (s : ByteArray) (w : World) (hs : s.size ≤ 1048576) :
    Calls Tryz.prog 8 #[.string s] w (Signs s w) := by
  obtain ⟨i0, hi, hz0, hz1, hz2⟩ := info4 TryzinfoS
  unfold Signs
  obtain ⟨hg0, hn0, hb0⟩ := two_laid w
  obtain ⟨W, hW⟩ : ∃ W, W = (w.alloc (.cells (fC f0) 32)).alloc (.cells #[] 37) := ⟨_, rfl⟩
  have hWz : W.heap.size = w.heap.size + 2 := by rw [hW]; simp
  rw [← hW] at hg0 hn0 hb0
  have hw : ((w.alloc (.cells #[.int .i64 0, .int .i64 0, .string ⟨#[]⟩] 32)).alloc (.cells #[] 37)) = W := hW.symm
  clear hW
  by_cases h1 : 20000 < s.size
  · have HR := Lib.hid (all_long h1)
    clear hi hz0 hz1 hz2
    go_enter Tryz.func8, Tryz.ntmps8
    go_wp2_with (first | (refine wpList_store_row rfl 32 _ _ rfl w.heap.size #[.int .i64 1, .int .i64 0, .string ⟨#[]⟩] rfl rfl 32 _ hg0 fault_info rfl (fault_one _ _ _) ?_) | fail)
    refine bodyPost_ret (v := .tuple #[.slice (some ⟨w.heap.size + 1, 0, none⟩) 0 0, fV ⟨1, 0, ⟨#[]⟩⟩]) ?_ rfl ⟨_, by rw [HR.out], by rw [HR.out]; exact own_down (own_setRow (own_none (B := w.heap.size + 1) (Nat.le_refl _) hn0) (Nat.lt_succ_self _) _) (Nat.le_succ _), setRow_below hb0 (Nat.le_refl _) _⟩
    exact ret_all rfl rfl rfl (setRow_at hg0)
  have HBd := Lib.hid (runes_bad s W hs)
  cases hbad : badAt s 0 with
  | some q =>
    have HR := Lib.hid (all_bad h1 hbad)
    rw [hbad] at HBd
    clear hi hz0 hz1 hz2 hbad
    go_enter Tryz.func8, Tryz.ntmps8
    go_wp2_with fail
    refine HBd.out.mono ?_
    rintro e w1 ⟨rfl, hb1⟩
    unfold badN
    have hb2 := hb0.trans (hb1.mono hb0.size)
    have hg1 := heap_kept hb1 (Array.getElem?_eq_some_iff.1 hg0).1 hg0
    have hn1 := heap_kept hb1 (Array.getElem?_eq_some_iff.1 hn0).1 hn0
    clear hb1 HBd hb0 hg0 hn0
    go_wp2_with (first | (refine wpList_store_row rfl 32 _ _ rfl w.heap.size #[.int .i64 2, .int .i64 q, .string ⟨#[]⟩] rfl rfl 32 _ hg1 fault_info rfl (fault_one _ _ _) ?_) | fail)
    refine bodyPost_ret (v := .tuple #[.slice (some ⟨w.heap.size + 1, 0, none⟩) 0 0, fV ⟨2, q, ⟨#[]⟩⟩]) ?_ rfl ⟨_, by rw [HR.out], by rw [HR.out]; exact own_down (own_setRow (own_none (B := w.heap.size + 1) (Nat.le_refl _) hn1) (Nat.lt_succ_self _) _) (Nat.le_succ _), setRow_below hb2 (Nat.le_refl _) _⟩
    exact ret_all rfl rfl rfl (setRow_at hg1)
  | none =>
  have HN : Hid (∀ q, signsF s 0 [] = .error q → allF s = ([], ⟨3, q, ⟨#[]⟩⟩)) := fun q h => all_sign h1 hbad h
  have HY : Hid (∀ l, signsF s 0 [] = .ok l → allF s = (l, f0)) := fun l h => all_ok h1 hbad h
  have HS := Lib.hid (fun (p : Nat) (hp : p ≤ s.size) w1 => spec_sign s (p : Int) w1 hs (by omega) (by omega))
  rw [hbad] at HBd
  unfold badN at HBd
  clear hbad
  go_enter Tryz.func8, Tryz.ntmps8
  go_wp2_with fail
  refine HBd.out.mono ?_
  rintro e w1 ⟨rfl, hb1⟩
  have hb2 := hb0.trans (hb1.mono hb0.size)
  have hg1 := heap_kept hb1 (Array.getElem?_eq_some_iff.1 hg0).1 hg0
  have hn1 := heap_kept hb1 (Array.getElem?_eq_some_iff.1 hn0).1 hn0
  have hz1' : w.heap.size + 2 ≤ w1.heap.size := by have := hb1.size; omega
  have Hown := Lib.hid (World.ownsRow_lit (size := 4) (base := w.heap.size + 2) (e := 37) w1 #[] 0 hz1' (by simp [maxLen]) rfl : (w1.alloc (.cells #[] 37)).ownsRow (w.heap.size + 2) 37 4 (.slice (some ⟨w1.heap.size, 0, none⟩) 0 0) 0 (rowsL []))
  have Hb := Lib.hid (hb2.alloc hb2.size (.cells #[] 37))
  have Hg : Hid ((w1.alloc (.cells #[] 37)).heap[w.heap.size]? = some (.cells (fC f0) 32 (0, 0))) := (heap_alloc_old w1 _ (Array.getElem?_eq_some_iff.1 hg1).1).trans hg1
  have Hno : Hid ((w1.alloc (.cells #[] 37)).heap[w.heap.size + 1]? = some (.cells #[] 37 (0, 0))) := (heap_alloc_old w1 _ (Array.getElem?_eq_some_iff.1 hn1).1).trans hn1
  clear hb1 HBd hb0 hg0 hn0 hb2 hg1 hn1 hw
  go_wp2_with fail
  go_loopw [6, 7] (fun v i wr => ∃ (p : Nat) (l : List Sg), i = .int .i64 p ∧ p ≤ s.size ∧ l.length ≤ p ∧ Hid (signsF s p l = signsF s 0 []) ∧ Hid (wr.ownsRow (w.heap.size + 2) 37 4 v l.length (rowsL l)) ∧ Hid (wr.heap[w.heap.size]? = some (.cells (fC f0) 32 (0, 0))) ∧ Hid (wr.heap[w.heap.size + 1]? = some (.cells #[] 37 (0, 0))) ∧ Hid (Below w.heap.size w wr)) (fun _ i _ => s.size - (intOf i).toNat)
  case atStart => exact ⟨0, [], rfl, Nat.zero_le _, Nat.zero_le _, rfl, Hown, Hg, Hno, Hb⟩
  case round =>
    clear Hown Hg Hno Hb
    obtain ⟨p, l, rfl, hp, hl, hr, Hown, Hg, Hno, Hb⟩ := hrel
    by_cases hplt : p < s.size
    · have eat := at_eq s p hplt
      have hbd := at_bd s p
      by_cases hbl : blank (at_ s p)
      · have Hr := Lib.hid ((signs_blank hplt hbl).symm.trans hr.out)
        unfold blank at hbl
        clear hr hbd
        rcases hbl with hbl | hbl | hbl | hbl <;> rw [hbl] at eat
        all_goals
          go_wp2_with fail
          go_roundw
          case rel => exact ⟨p + 1, l, by go_num, by omega, by omega, Hr, Hown, Hg, Hno, Hb⟩
          case measure => simp [intOf]; omega
      obtain ⟨e1, e2, e3, e4⟩ := blank_bools _ hbl
      have HC := Lib.hid (HS.out p hp wr)
      rw [sign_in hplt] at HC
      by_cases hn : (signN s p).2 < 0
      · have HR := Lib.hid (HN.out p (hr.out.symm.trans (signs_bad hplt hbl hn)))
        clear hr
        generalize signN s p = r at HC hn
        obtain ⟨⟨k, t, n, a⟩, y⟩ := r
        have hn' : y < 0 := hn
        unfold sgR sgV sgC at HC
        simp only at HC
        clear hn hbl
        go_wp2_with fail
        refine HC.out.mono ?_
        rintro e w3 ⟨rfl, hb3⟩
        have hb5 := (Hb.out.trans (hb3.mono Hb.out.size)).alloc (Hb.out.trans (hb3.mono Hb.out.size)).size (.cells #[.int .i64 k, .string t, .int .i64 n, .int .i64 a] 37)
        have hg4 := heap_kept hb3 (Array.getElem?_eq_some_iff.1 Hg.out).1 Hg.out
        have hn4 := heap_kept hb3 (Array.getElem?_eq_some_iff.1 Hno.out).1 Hno.out
        have hg5 : (w3.alloc (.cells #[.int .i64 k, .string t, .int .i64 n, .int .i64 a] 37)).heap[w.heap.size]? = some (.cells (fC f0) 32 (0, 0)) := (heap_alloc_old w3 _ (Array.getElem?_eq_some_iff.1 hg4).1).trans hg4
        have hn5 : (w3.alloc (.cells #[.int .i64 k, .string t, .int .i64 n, .int .i64 a] 37)).heap[w.heap.size + 1]? = some (.cells #[] 37 (0, 0)) := (heap_alloc_old w3 _ (Array.getElem?_eq_some_iff.1 hn4).1).trans hn4
        clear HC hb3 hg4 hn4
        go_wp2_with (first | (refine wpList_store_row rfl 32 _ _ rfl w.heap.size #[.int .i64 3, .int .i64 p, .string ⟨#[]⟩] rfl rfl 32 _ hg5 fault_info rfl (fault_one _ _ _) ?_) | fail)
        refine bodyPost_ret (v := .tuple #[.slice (some ⟨w.heap.size + 1, 0, none⟩) 0 0, fV ⟨3, p, ⟨#[]⟩⟩]) ?_ rfl ⟨_, by rw [HR.out], by rw [HR.out]; exact own_down (own_setRow (own_none (B := w.heap.size + 1) (Nat.le_refl _) hn5) (Nat.lt_succ_self _) _) (Nat.le_succ _), setRow_below hb5 (Nat.le_refl _) _⟩
        exact ret_all rfl rfl rfl (setRow_at hg5)
      · rcases sign_bd s p hplt with e | ⟨q, hq, hpq, hqs⟩
        · rw [e] at hn; exact absurd (by decide) hn
        have Hgo := Lib.hid ((signs_go (l := l) hplt hbl hq hpq).symm.trans hr.out)
        clear hr hn hbl
        generalize signN s p = r at HC hq Hgo
        obtain ⟨⟨k, t, n, a⟩, y⟩ := r
        obtain rfl : y = (q : Int) := hq
        unfold sgR sgV sgC at HC
        simp only at HC Hgo
        go_wp2_with fail
        refine HC.out.mono ?_
        rintro e w3 ⟨rfl, hb3⟩
        have hb4 := Hb.out.trans (hb3.mono Hb.out.size)
        have hg4 := heap_kept hb3 (Array.getElem?_eq_some_iff.1 Hg.out).1 Hg.out
        have hn4 := heap_kept hb3 (Array.getElem?_eq_some_iff.1 Hno.out).1 Hno.out
        have Hb5 := Lib.hid (hb4.alloc hb4.size (.cells #[.int .i64 k, .string t, .int .i64 n, .int .i64 a] 37))
        have Hg5 : Hid ((w3.alloc (.cells #[.int .i64 k, .string t, .int .i64 n, .int .i64 a] 37)).heap[w.heap.size]? = some (.cells (fC f0) 32 (0, 0))) := (heap_alloc_old w3 _ (Array.getElem?_eq_some_iff.1 hg4).1).trans hg4
        have Hn5 : Hid ((w3.alloc (.cells #[.int .i64 k, .string t, .int .i64 n, .int .i64 a] 37)).heap[w.heap.size + 1]? = some (.cells #[] 37 (0, 0))) := (heap_alloc_old w3 _ (Array.getElem?_eq_some_iff.1 hn4).1).trans hn4
        have Hown5 := Lib.hid ((own_keeps Hown.out hb3).alloc (.cells #[.int .i64 k, .string t, .int .i64 n, .int .i64 a] 37))
        have hgs := heap_alloc_new w3 (.cells #[.int .i64 k, .string t, .int .i64 n, .int .i64 a] 37)
        have hlt3 : w.heap.size + 1 < w3.heap.size := (Array.getElem?_eq_some_iff.1 hn4).1
        have hsz5 : (w3.alloc (.cells #[.int .i64 k, .string t, .int .i64 n, .int .i64 a] 37)).heap.size = w3.heap.size + 1 := by simp
        clear HC hb3 hg4 hn4 hb4 Hown Hg Hb Hno
        have Hsz5 := Lib.hid hsz5
        clear hsz5
        generalize hV : w3.alloc (.cells #[.int .i64 k, .string t, .int .i64 n, .int .i64 a] 37) = V at *
        go_wp2_with (first | (refine wpList_load_row rfl 37 _ rfl w3.heap.size rfl 37 #[.int .i64 k, .string t, .int .i64 n, .int .i64 a] (0, 0) _ hgs Tryz.underlying37 rfl sign_info ?_) | (at_builtin; refine wpList_append_own _ rfl (.tmp 59) (.tmp 61) 30 rfl (w.heap.size + 2) 37 i0 _ 4 40 Tryz.underlying30 hi hz0 hz1 hz2 rfl (by decide) _ l.length _ rfl (Hown5.out.alloc _) ⟨V.heap.size, 0, none⟩ 1 1 (sgL ⟨k, t, n, a⟩) rfl rfl (by exact lit_cells _ _ _) (by rw [← rowsL_one]; exact rowsL_cell _) (by unfold maxLen; omega) (by omega) (by have := Hsz5.out; simp; omega) ?_) | fail)
        clear hV
        intro v4 w4 hown4 hg4 _
        have Hb6 := Lib.hid ((Hb5.out.alloc Hb5.out.size _).grown hg4 (by have := Hb5.out.size; simp; omega) (fun b hb => by have := (Hown5.out.lt b hb).1; omega))
        have Hg6 := Lib.hid (heap_grown (Hown5.out.alloc _) (by omega) hg4 ((heap_alloc_old V _ (Array.getElem?_eq_some_iff.1 Hg5.out).1).trans Hg5.out))
        have Hn6 := Lib.hid (heap_grown (Hown5.out.alloc _) (by omega) hg4 ((heap_alloc_old V _ (Array.getElem?_eq_some_iff.1 Hn5.out).1).trans Hn5.out))
        have Hown6 : Hid (w4.ownsRow (w.heap.size + 2) 37 4 v4 (l ++ [(⟨k, t, n, a⟩ : Sg)]).length (rowsL (l ++ [(⟨k, t, n, a⟩ : Sg)]))) := by
          unfold Hid
          rw [rowsL_append, rowsL_one, List.length_append]
          exact hown4
        clear hown4 hg4 Hown5 Hg5 Hb5 Hn5 hgs
        go_wp2_with fail
        go_roundw
        case rel => exact ⟨q, l ++ [(⟨k, t, n, a⟩ : Sg)], rfl, hqs, by rw [List.length_append]; simp; omega, Hgo, Hown6, Hg6, Hn6, Hb6⟩
        case measure => simp [intOf]; omega
    · have HR := Lib.hid (HY.out l (hr.out.symm.trans (signs_end (by omega))))
      have hg := Hg.out
      clear hr
      go_wp2_with (first | (refine wpList_store_row rfl 32 _ _ rfl w.heap.size (fC f0) rfl rfl 32 _ hg fault_info rfl (fault_one _ _ _) ?_) | fail)
      refine bodyPost_ret (v := .tuple #[u6, fV f0]) ?_ rfl ⟨_, by rw [HR.out], by rw [HR.out]; exact own_down (own_setRow Hown.out (by omega) _) (by omega), setRow_below Hb.out (Nat.le_refl _) _⟩
      exact ret_all rfl rfl rfl (setRow_at hg)
end Go.Proofs.YtlnfbpdicjcpgaaGreatDoor.sign
