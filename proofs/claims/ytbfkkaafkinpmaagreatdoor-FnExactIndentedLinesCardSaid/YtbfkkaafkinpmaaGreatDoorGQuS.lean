/- Merged: QuoteS KtS. -/
import Derived.Test.YtbfkkaafkinpmaaGreatDoorGRn
import Derived.Test.YtbfkkaafkinpmaaGreatDoorGSc
import Derived.Test.YtbfkkaafkinpmaaGreatDoorGDec
import Derived.Lib.AppendStr
import Derived.Test.YtbfkkaafkinpmaaGreatDoorGPl
namespace Go.Proofs.YtbfkkaafkinpmaaGreatDoor.quote
open Go.ChangeShapes Go.WideShapes Go.ChangeAt Go.RowKit
set_option linter.unusedVariables false

theorem fg_fig (n : Nat) : hex.fig n = fg n := rfl
theorem two_one (a b : Value) (ha : a.oneCell' = true) (hb : b.oneCell' = true) : ∀ u ∈ ([a, b] : List Value), u.oneCell' = true := by
  intro u hu
  simp at hu
  rcases hu with rfl | rfl
  · exact ha
  · exact hb

set_option maxHeartbeats 4000000 in
set_option maxRecDepth 100000 in
theorem spec_quoted (s : ByteArray) (w : World) (hs : s.size ≤ 1048576) :
    Calls Tryz.prog 45 #[.string s] w fun e w' => e = .returned (.string (quotedF s)) ∧ Below w.heap.size w w' := by
  obtain ⟨i0, hi, hz0, hz1, hz2⟩ := info_parts binfo.Tryzinfo
  have HR := Lib.hid (rune.spec_runes s w hs)
  cases hrf : rune.runesF s with
  | none =>
    rw [quoted_no hrf]
    simp only [(rune.res_none hrf).2] at HR
    clear hrf hi hz0 hz1 hz2
    go_enter Tryz.func45, Tryz.ntmps45
    go_wp2_with fail
    refine HR.out.mono ?_
    rintro e w1 ⟨v, rfl, _, hb⟩
    clear HR
    go_wp2_with fail
    go_ret
    exact ⟨rfl, hb⟩
  | some l =>
    rw [quoted_yes hrf]
    simp only [(rune.res_some hrf).1, (rune.res_some hrf).2] at HR
    have Hq := Lib.hid (runes_q hrf)
    have hln := runes_len hrf
    have HV : Hid (∀ x ∈ l, ∃ n : Nat, x = (n : Int) ∧ rune.valid n) := fun x hx => cut_valid hrf x hx
    obtain ⟨n, hn⟩ : ∃ n, n = l.length := ⟨_, rfl⟩
    simp only [← hn] at HR
    have hnb : n ≤ 1048576 := by omega
    have Hl := Lib.hid hn
    clear hrf hln hn
    go_enter Tryz.func45, Tryz.ntmps45
    go_wp2_with fail
    refine HR.out.mono ?_
    rintro e w1 ⟨v, rfl, hown, hb⟩
    obtain ⟨A, c, rfl, hnc, hcm, hrd⟩ := Rd.of_own hown
    have H := Lib.hid hrd
    have hown1 : (w1.alloc (.cells #[.int .u8 34] 5)).ownsRow w1.heap.size 5 1 (.slice (some ⟨w1.heap.size, 0, none⟩) 1 1) 1 (bcells [34]) := World.ownsRow_lit w1 #[.int .u8 34] 1 (Nat.le_refl _) (by simp [maxLen]) rfl
    have Hown := Lib.hid hown1
    have Hb := Lib.hid ((Below.refl w1.heap.size w1).alloc (Nat.le_refl _) (.cells #[.int .u8 34] 5))
    have Hb1 := Lib.hid hb
    clear hrd hown hown1 HR hb
    go_wp2_with fail
    go_loopw [5, 6] (fun v i wr => ∃ (k m : Nat) (bs : List UInt8), k ≤ n ∧ i = .int .i64 k ∧ m ≤ 1 + 6 * k ∧ bs.length = m ∧ Hid (bs = 34 :: byR (l.take k)) ∧ wr.ownsRow w1.heap.size 5 1 v m (bcells bs) ∧ Below w1.heap.size w1 wr) (fun _ i _ => n - (intOf i).toNat)
    case atStart => exact ⟨0, 1, [34], Nat.zero_le _, rfl, by omega, rfl, rfl, Hown.out, Hb.out⟩
    case round =>
      clear Hown Hb
      obtain ⟨k, m, bs, hk, rfl, hm, hlen, hbs, hown, hbel⟩ := hrel
      by_cases hlt : k < n
      · have hkl : k < l.length := by have := Hl.out; omega
        obtain ⟨g, o, rfl, hg, hc0⟩ := H.out.2 (by omega)
        have hc : wr.cell? ⟨g, o + k, none⟩ = some (.int .i64 (l.getD k 0)) := (hbel.cell (p := ⟨g, o + k, none⟩) hg).trans (hc0 k hlt _ (icells_get l k hkl))
        have Hj : Hid (bs ++ qN (l.getD k 0).toNat = 34 :: byR (l.take (k + 1))) := by
          unfold Hid
          rw [List.take_succ_eq_append_getElem hkl, byR_snoc, hbs.out, List.getD_eq_getElem?_getD, List.getElem?_eq_getElem hkl]
          rfl
        have hv : ∃ y : Nat, l.getD k 0 = (y : Int) ∧ rune.valid y := by
          rw [List.getD_eq_getElem?_getD, List.getElem?_eq_getElem hkl]
          exact HV.out _ (List.getElem_mem hkl)
        clear hc0 hkl hbs
        generalize l.getD k 0 = x at hc Hj hv
        have Hlen := Lib.hid hlen
        clear hlen
        by_cases hx : x = 34
        · skip
          subst hx
          have Hj2 : Hid (bs ++ [92, 34] = 34 :: byR (l.take (k + 1))) := Hj.out
          clear Hj hv
          go_wp2_with (first | (at_builtin; refine wpList_append_own _ rfl (.tmp 37) (.tmp 40) 45 rfl w1.heap.size 5 i0 (.int .u8 0) 1 1 Tryz.underlying45 hi hz0 hz1 hz2 rfl (by decide) _ m _ rfl (hown.alloc _) ⟨wr.heap.size, 0, none⟩ 2 2 [.int .u8 92, .int .u8 34] rfl rfl (by exact lit_cells _ _ _) (two_one _ _ rfl rfl) (by unfold maxLen; omega) (by omega) (by have := hbel.size; simp; omega) ?_) | fail)
          intro v3 w3 hown3 hg3 _
          have hbel3 : Below w1.heap.size w1 w3 := (hbel.alloc hbel.size _).grown hg3 (by have := hbel.size; simp; omega) (fun b hb => (hown.lt b hb).1)
          rw [show ([.int .u8 92, .int .u8 34] : List Value) = bcells [92, 34] from rfl, ← bcells_append] at hown3
          clear hown hbel hg3
          go_wp2_with fail
          go_roundw
          case rel => exact ⟨k + 1, m + 2, bs ++ [92, 34], by omega, by go_num, by omega, by rw [List.length_append, Hlen.out]; rfl, Hj2.out, hown3, hbel3⟩
          case measure => simp [intOf]; omega
        have h34 := hx
        clear hx
        by_cases hx : x = 92
        · skip
          subst hx
          have Hj2 : Hid (bs ++ [92, 92] = 34 :: byR (l.take (k + 1))) := Hj.out
          clear Hj hv
          go_wp2_with (first | (at_builtin; refine wpList_append_own _ rfl (.tmp 37) (.tmp 40) 45 rfl w1.heap.size 5 i0 (.int .u8 0) 1 1 Tryz.underlying45 hi hz0 hz1 hz2 rfl (by decide) _ m _ rfl (hown.alloc _) ⟨wr.heap.size, 0, none⟩ 2 2 [.int .u8 92, .int .u8 92] rfl rfl (by exact lit_cells _ _ _) (two_one _ _ rfl rfl) (by unfold maxLen; omega) (by omega) (by have := hbel.size; simp; omega) ?_) | fail)
          intro v3 w3 hown3 hg3 _
          have hbel3 : Below w1.heap.size w1 w3 := (hbel.alloc hbel.size _).grown hg3 (by have := hbel.size; simp; omega) (fun b hb => (hown.lt b hb).1)
          rw [show ([.int .u8 92, .int .u8 92] : List Value) = bcells [92, 92] from rfl, ← bcells_append] at hown3
          clear hown hbel hg3
          go_wp2_with fail
          go_roundw
          case rel => exact ⟨k + 1, m + 2, bs ++ [92, 92], by omega, by go_num, by omega, by rw [List.length_append, Hlen.out]; rfl, Hj2.out, hown3, hbel3⟩
          case measure => simp [intOf]; omega
        have h92 := hx
        clear hx
        by_cases hx : x = 8
        · skip
          subst hx
          have Hj2 : Hid (bs ++ [92, 98] = 34 :: byR (l.take (k + 1))) := Hj.out
          clear Hj hv
          go_wp2_with (first | (at_builtin; refine Lib.wpList_append_own_string _ rfl (.tmp 45) (.const (.string ⟨#[92, 98]⟩)) 45 9 rfl w1.heap.size 5 i0 Tryz.underlying45 Tryz.underlying9 hi hz0 hz1 hz2 _ m _ rfl hown ⟨#[92, 98]⟩ rfl (by unfold maxLen; show m + 2 ≤ _; omega) (by show m + 2 ≤ _; omega) (by have := hbel.size; omega) ?_) | fail)
          intro v3 w3 hown3 hg3 _
          have hbel3 : Below w1.heap.size w1 w3 := hbel.grown hg3 (by have := hbel.size; omega) (fun b hb => (hown.lt b hb).1)
          rw [show Lib.strCells ⟨#[92, 98]⟩ = bcells [92, 98] from rfl, ← bcells_append] at hown3
          clear hown hbel hg3
          go_wp2_with fail
          go_roundw
          case rel => exact ⟨k + 1, m + 2, bs ++ [92, 98], by omega, by go_num, by omega, by rw [List.length_append, Hlen.out]; rfl, Hj2.out, hown3, hbel3⟩
          case measure => simp [intOf]; omega
        have h8 := hx
        clear hx
        by_cases hx : x = 12
        · skip
          subst hx
          have Hj2 : Hid (bs ++ [92, 102] = 34 :: byR (l.take (k + 1))) := Hj.out
          clear Hj hv
          go_wp2_with (first | (at_builtin; refine Lib.wpList_append_own_string _ rfl (.tmp 50) (.const (.string ⟨#[92, 102]⟩)) 45 9 rfl w1.heap.size 5 i0 Tryz.underlying45 Tryz.underlying9 hi hz0 hz1 hz2 _ m _ rfl hown ⟨#[92, 102]⟩ rfl (by unfold maxLen; show m + 2 ≤ _; omega) (by show m + 2 ≤ _; omega) (by have := hbel.size; omega) ?_) | fail)
          intro v3 w3 hown3 hg3 _
          have hbel3 : Below w1.heap.size w1 w3 := hbel.grown hg3 (by have := hbel.size; omega) (fun b hb => (hown.lt b hb).1)
          rw [show Lib.strCells ⟨#[92, 102]⟩ = bcells [92, 102] from rfl, ← bcells_append] at hown3
          clear hown hbel hg3
          go_wp2_with fail
          go_roundw
          case rel => exact ⟨k + 1, m + 2, bs ++ [92, 102], by omega, by go_num, by omega, by rw [List.length_append, Hlen.out]; rfl, Hj2.out, hown3, hbel3⟩
          case measure => simp [intOf]; omega
        have h12 := hx
        clear hx
        by_cases hx : x = 10
        · skip
          subst hx
          have Hj2 : Hid (bs ++ [92, 110] = 34 :: byR (l.take (k + 1))) := Hj.out
          clear Hj hv
          go_wp2_with (first | (at_builtin; refine Lib.wpList_append_own_string _ rfl (.tmp 55) (.const (.string ⟨#[92, 110]⟩)) 45 9 rfl w1.heap.size 5 i0 Tryz.underlying45 Tryz.underlying9 hi hz0 hz1 hz2 _ m _ rfl hown ⟨#[92, 110]⟩ rfl (by unfold maxLen; show m + 2 ≤ _; omega) (by show m + 2 ≤ _; omega) (by have := hbel.size; omega) ?_) | fail)
          intro v3 w3 hown3 hg3 _
          have hbel3 : Below w1.heap.size w1 w3 := hbel.grown hg3 (by have := hbel.size; omega) (fun b hb => (hown.lt b hb).1)
          rw [show Lib.strCells ⟨#[92, 110]⟩ = bcells [92, 110] from rfl, ← bcells_append] at hown3
          clear hown hbel hg3
          go_wp2_with fail
          go_roundw
          case rel => exact ⟨k + 1, m + 2, bs ++ [92, 110], by omega, by go_num, by omega, by rw [List.length_append, Hlen.out]; rfl, Hj2.out, hown3, hbel3⟩
          case measure => simp [intOf]; omega
        have h10 := hx
        clear hx
        by_cases hx : x = 13
        · skip
          subst hx
          have Hj2 : Hid (bs ++ [92, 114] = 34 :: byR (l.take (k + 1))) := Hj.out
          clear Hj hv
          go_wp2_with (first | (at_builtin; refine Lib.wpList_append_own_string _ rfl (.tmp 60) (.const (.string ⟨#[92, 114]⟩)) 45 9 rfl w1.heap.size 5 i0 Tryz.underlying45 Tryz.underlying9 hi hz0 hz1 hz2 _ m _ rfl hown ⟨#[92, 114]⟩ rfl (by unfold maxLen; show m + 2 ≤ _; omega) (by show m + 2 ≤ _; omega) (by have := hbel.size; omega) ?_) | fail)
          intro v3 w3 hown3 hg3 _
          have hbel3 : Below w1.heap.size w1 w3 := hbel.grown hg3 (by have := hbel.size; omega) (fun b hb => (hown.lt b hb).1)
          rw [show Lib.strCells ⟨#[92, 114]⟩ = bcells [92, 114] from rfl, ← bcells_append] at hown3
          clear hown hbel hg3
          go_wp2_with fail
          go_roundw
          case rel => exact ⟨k + 1, m + 2, bs ++ [92, 114], by omega, by go_num, by omega, by rw [List.length_append, Hlen.out]; rfl, Hj2.out, hown3, hbel3⟩
          case measure => simp [intOf]; omega
        have h13 := hx
        clear hx
        by_cases hx : x = 9
        · skip
          subst hx
          have Hj2 : Hid (bs ++ [92, 116] = 34 :: byR (l.take (k + 1))) := Hj.out
          clear Hj hv
          go_wp2_with (first | (at_builtin; refine Lib.wpList_append_own_string _ rfl (.tmp 65) (.const (.string ⟨#[92, 116]⟩)) 45 9 rfl w1.heap.size 5 i0 Tryz.underlying45 Tryz.underlying9 hi hz0 hz1 hz2 _ m _ rfl hown ⟨#[92, 116]⟩ rfl (by unfold maxLen; show m + 2 ≤ _; omega) (by show m + 2 ≤ _; omega) (by have := hbel.size; omega) ?_) | fail)
          intro v3 w3 hown3 hg3 _
          have hbel3 : Below w1.heap.size w1 w3 := hbel.grown hg3 (by have := hbel.size; omega) (fun b hb => (hown.lt b hb).1)
          rw [show Lib.strCells ⟨#[92, 116]⟩ = bcells [92, 116] from rfl, ← bcells_append] at hown3
          clear hown hbel hg3
          go_wp2_with fail
          go_roundw
          case rel => exact ⟨k + 1, m + 2, bs ++ [92, 116], by omega, by go_num, by omega, by rw [List.length_append, Hlen.out]; rfl, Hj2.out, hown3, hbel3⟩
          case measure => simp [intOf]; omega
        have h9 := hx
        clear hx
        have e34 : (x == 34) = false := by simpa using h34
        have e92 : (x == 92) = false := by simpa using h92
        by_cases hx : x < 32
        · have hx0 : 0 ≤ x := by obtain ⟨y, rfl, _⟩ := hv; omega
          have Hj2 : Hid (bs ++ ([92, 117, 48, 48] ++ [hex.fig (x / 16).toNat, hex.fig (x % 16).toNat]) = 34 :: byR (l.take (k + 1))) := by
            have h := Hj.out
            have e : qN x.toNat = [92, 117, 48, 48] ++ [hex.fig (x / 16).toNat, hex.fig (x % 16).toNat] := by
              unfold qN esc
              rw [if_neg (by omega), if_neg (by omega), if_neg (by omega), if_neg (by omega), if_neg (by omega), if_neg (by omega), if_neg (by omega), if_pos (by omega), fg_fig, fg_fig]
              have e1 : x.toNat / 16 = (x / 16).toNat := by omega
              have e2 : x.toNat % 16 = (x % 16).toNat := by omega
              rw [e1, e2]
              rfl
            rw [e] at h
            exact h
          have HF := Lib.hid (fun y w h0 h1 => hex.figure_any y w h0 h1)
          clear Hj hv
          go_wp2_with (first | (at_builtin; refine Lib.wpList_append_own_string _ rfl (.tmp 70) (.const (.string ⟨#[92, 117, 48, 48]⟩)) 45 9 rfl w1.heap.size 5 i0 Tryz.underlying45 Tryz.underlying9 hi hz0 hz1 hz2 _ m _ rfl hown ⟨#[92, 117, 48, 48]⟩ rfl (by unfold maxLen; show m + 4 ≤ _; omega) (by show m + 4 ≤ _; omega) (by have := hbel.size; omega) ?_) | fail)
          intro v3 w3 hown3 hg3 _
          have hbel3 : Below w1.heap.size w1 w3 := hbel.grown hg3 (by have := hbel.size; omega) (fun b hb => (hown.lt b hb).1)
          rw [show Lib.strCells ⟨#[92, 117, 48, 48]⟩ = bcells [92, 117, 48, 48] from rfl, ← bcells_append] at hown3
          clear hown hbel hg3
          go_wp2_with fail
          refine (HF.out _ _ (by omega) (by omega)).mono ?_
          rintro e w4 ⟨rfl, rfl⟩
          go_wp2_with fail
          refine (HF.out _ _ (by omega) (by omega)).mono ?_
          rintro e w4 ⟨rfl, rfl⟩
          clear HF
          generalize hex.fig (x / 16).toNat = f1 at Hj2
          generalize hex.fig (x % 16).toNat = f2 at Hj2
          go_wp2_with (first | (at_builtin; refine wpList_append_own _ rfl (.tmp 72) (.tmp 79) 45 rfl w1.heap.size 5 i0 (.int .u8 0) 1 1 Tryz.underlying45 hi hz0 hz1 hz2 rfl (by decide) _ (m + 4) _ rfl (hown3.alloc _) ⟨w3.heap.size, 0, none⟩ 2 2 [.int .u8 f1.toNat, .int .u8 f2.toNat] rfl rfl (by exact lit_cells _ _ _) (two_one _ _ rfl rfl) (by unfold maxLen; omega) (by omega) (by have := hbel3.size; simp; omega) ?_) | fail)
          intro v5 w5 hown5 hg5 _
          have hbel5 : Below w1.heap.size w1 w5 := (hbel3.alloc hbel3.size _).grown hg5 (by have := hbel3.size; simp; omega) (fun b hb => (hown3.lt b hb).1)
          rw [show ([.int .u8 f1.toNat, .int .u8 f2.toNat] : List Value) = bcells [f1, f2] from rfl, ← bcells_append, List.append_assoc] at hown5
          clear hown3 hbel3 hg5
          go_wp2_with fail
          go_roundw
          case rel => exact ⟨k + 1, m + 4 + 2, bs ++ ([92, 117, 48, 48] ++ [f1, f2]), by omega, by go_num, by omega, by rw [List.length_append, Hlen.out]; rfl, Hj2.out, hown5, hbel5⟩
          case measure => simp [intOf]; omega
        · obtain ⟨y, rfl, hvy⟩ := hv
          have Hj2 : Hid (bs ++ (rune.textF (y : Int)).data.toList = 34 :: byR (l.take (k + 1))) := by
            have h := Hj.out
            have e : qN (y : Int).toNat = (rune.textF (y : Int)).data.toList := by
              rw [Int.toNat_natCast, rune.text_yes hvy]
              unfold qN esc
              rw [if_neg (by omega), if_neg (by omega), if_neg (by omega), if_neg (by omega), if_neg (by omega), if_neg (by omega), if_neg (by omega), if_neg (by omega)]
              rfl
            rw [e] at h
            exact h
          have hyb : (y : Int) ≤ 9223372036854775807 := by unfold rune.valid at hvy; omega
          have HT := Lib.hid (fun w => rune.spec_text (y : Int) w (by omega) hyb)
          have h4 := rune.text_le (y : Int)
          clear Hj hvy hyb
          generalize (y : Int) = x at *
          go_wp2_with fail
          refine (HT.out _).mono ?_
          rintro e w2 ⟨rfl, hb2⟩
          clear HT
          generalize rune.textF x = t at Hj2 h4
          have hown2 := own_below hown hb2
          have hbel2 := hbel.trans (hb2.mono hbel.size)
          clear hown hbel hb2 hc
          go_wp2_with (first | (at_builtin; refine Lib.wpList_append_own_string _ rfl (.tmp 26) (.tmp 28) 45 9 rfl w1.heap.size 5 i0 Tryz.underlying45 Tryz.underlying9 hi hz0 hz1 hz2 _ m _ rfl hown2 t rfl (by unfold maxLen; omega) (by omega) (by have := hbel2.size; omega) ?_) | fail)
          intro v3 w3 hown3 hg3 _
          have hbel3 : Below w1.heap.size w1 w3 := hbel2.grown hg3 (by have := hbel2.size; omega) (fun b hb => (hown2.lt b hb).1)
          rw [show Lib.strCells t = bcells t.data.toList from rfl, ← bcells_append] at hown3
          clear hown2 hbel2 hg3
          go_wp2_with fail
          go_roundw
          case rel => exact ⟨k + 1, m + t.size, bs ++ t.data.toList, by omega, by go_num, by omega, by rw [List.length_append, Hlen.out]; simp, Hj2.out, hown3, hbel3⟩
          case measure => simp [intOf]; omega
      · obtain rfl : k = n := by omega
        have Hr : Hid (⟨(bs ++ [34]).toArray⟩ = wrap (byB s.data.toList)) := by
          unfold Hid wrap
          rw [hbs.out, List.take_of_length_le (by have := Hl.out; omega), Hq.out]
        have Hlen := Lib.hid hlen
        clear hbs hlen
        go_wp2_with (first | (at_builtin; refine wpList_append_own _ rfl (.tmp 81) (.tmp 82) 45 rfl w1.heap.size 5 i0 (.int .u8 0) 1 1 Tryz.underlying45 hi hz0 hz1 hz2 rfl (by decide) _ m _ rfl (hown.alloc _) ⟨wr.heap.size, 0, none⟩ 1 1 [.int .u8 34] rfl rfl (by exact lit_cells _ _ _) (binfo.one_cell _) (by unfold maxLen; omega) (by omega) (by have := hbel.size; simp; omega) ?_) | fail)
        intro v3 w3 hown3 hg3 _
        have hbel3 : Below w1.heap.size w1 w3 := (hbel.alloc hbel.size _).grown hg3 (by have := hbel.size; simp; omega) (fun b hb => (hown.lt b hb).1)
        rw [show ([.int .u8 34] : List Value) = bcells [34] from rfl, ← bcells_append] at hown3
        have hconv := binfo.conv (n := m + 1) (by rw [List.length_append, Hlen.out]; rfl) hown3
        have Hbel := Lib.hid (Hb1.out.trans (hbel3.mono Hb1.out.size))
        clear hown hbel hg3 hown3 hbel3
        go_wp2_with fail
        go_ret
        exact ⟨by rw [← Hr.out]; rfl, Hbel.out⟩
end Go.Proofs.YtbfkkaafkinpmaaGreatDoor.quote
namespace Go.Proofs.YtbfkkaafkinpmaaGreatDoor.line
open Go.ChangeShapes Go.WideShapes Go.ChangeAt Go.RowKit
set_option linter.unusedVariables false

theorem spec_kt (s : ByteArray) (w : World) (hs : s.size ≤ 1048576) :
    Calls Tryz.prog 34 #[.string s] w fun e w' => e = .returned (.string (keyT s)) ∧ Below w.heap.size w w' := by
  have HP := Lib.hid (fun w1 (hb : Below w.heap.size w w1) => spec_plain s w1 hs)
  have HQ := Lib.hid (fun w1 (hb : Below w.heap.size w w1) => quote.spec_quoted s w1 hs)
  cases hp : plainF s with
  | true =>
    have e : keyT s = s := by unfold keyT; rw [if_pos hp]
    rw [e]
    rw [hp] at HP
    clear e hp HQ
    go_enter Tryz.func34, Tryz.ntmps34
    go_wp2_with fail
    refine (HP.out _ (Below.refl _ _)).mono ?_
    rintro e w1 ⟨rfl, hb1⟩
    have Hb1 := Lib.hid hb1
    clear HP hb1
    go_wp2_with fail
    go_ret
    exact ⟨rfl, Hb1.out⟩
  | false =>
    have e : keyT s = quote.quotedF s := by unfold keyT; rw [if_neg (by rw [hp]; decide)]
    rw [e]
    rw [hp] at HP
    clear e hp
    generalize quote.quotedF s = q at HQ
    go_enter Tryz.func34, Tryz.ntmps34
    go_wp2_with fail
    refine (HP.out _ (Below.refl _ _)).mono ?_
    rintro e w1 ⟨rfl, hb1⟩
    have Hb1 := Lib.hid hb1
    clear HP hb1
    go_wp2_with fail
    refine (HQ.out _ Hb1.out).mono ?_
    rintro e w2 ⟨rfl, hb2⟩
    have Hb2 := Lib.hid (Hb1.out.trans (hb2.mono Hb1.out.size))
    clear HQ hb2 Hb1
    go_wp2_with fail
    go_ret
    exact ⟨rfl, Hb2.out⟩
end Go.Proofs.YtbfkkaafkinpmaaGreatDoor.line
