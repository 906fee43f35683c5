/- Drawn lists of requirements: l15List. -/
import Derived.Test.YtjcfaepklakpkaaDoorDrawNm
import Derived.Test.YtjcfaepklakpkaaDoorSortNS
namespace Go.Proofs.YtjcfaepklakpkaaDoor.draw
open Go.ChangeShapes Go.WideShapes Go.ChangeAt Go.RowKit ty lab need dedup
set_option linter.unusedVariables false

set_option maxRecDepth 1000000 in
set_option maxHeartbeats 8000000 in
theorem needs_any (c : Nat) (A : Option Addr) (len cap : Nat) (z : Nat → Int) (w : World) (hc : Cur w c A len cap z) :
    Calls Tryd.prog 58 #[.pointer (some ⟨c, 0, none⟩)] w (GotNL (TinyL 4 3) c A len cap z w) := by
  obtain ⟨i0, hi, hz0, hz1, hz2⟩ := info_parts TrydinfoNeed
  have hclt := hc.lt
  have hown0 : (w.alloc (.cells #[] 30)).ownsRow w.heap.size 30 3 (.slice (some ⟨w.heap.size, 0, none⟩) 0 0) 0 [] := World.ownsRow_lit w #[] 0 (Nat.le_refl _) (by simp [maxLen]) rfl
  obtain ⟨F0, ho0, hn0, _⟩ := (OwnRow.of_lit (f := 1) hown0).own
  have S0 := Lib.hid (show StN w c A len cap z (.slice (some ⟨w.heap.size, 0, none⟩) 0 0) [] 1 F0 (w.alloc (.cells #[] 30)) from ⟨cur_alloc hc _, grown_alloc _ _ _, ho0, hn0⟩)
  clear hc hown0 ho0 hn0
  go_enter Tryd.func58, Tryd.ntmps58
  go_wp2_with fail
  go_loopw [3, 4] (fun vo i wr => ∃ (j : Nat) (l : List Need) (f : Nat) (F : List Nat), j ≤ 3 ∧ i = .int .i64 j ∧ Hid (TinyL 4 3 l) ∧ StN w c A len cap z vo l f F wr) (fun _ i _ => 3 - (intOf i).toNat)
  case atStart => exact ⟨0, [], 1, F0, by omega, rfl, Lib.hid ⟨by simp, fun x hx => by cases hx⟩, S0.out⟩
  case round =>
    clear S0
    obtain ⟨j, l, f, F, hj, rfl, hl, hst⟩ := hrel
    have HB := Lib.hid (below_any c A len cap z 3 wr hst.cur (by decide) (by decide))
    obtain ⟨Ao, co, rfl, hco1, hco2, _⟩ := els_of Need.row_length hst.own.lies
    have Hst := Lib.hid hst
    clear hst
    go_wp2_with fail
    refine HB.out.mono ?_
    rintro e w1 ⟨x, hx, rfl, hc1, hg1⟩
    have S1 := Lib.hid (Hst.out.turn hclt hc1 hg1)
    clear hc1 hg1 HB Hst
    by_cases hlt : (j : Int) < x
    · have hj3 : j < 3 := by omega
      have hl4 := hl.out.1
      have S1size := Lib.hid S1.out.grown.size
      have S1rng := Lib.hid (fun q (hq : q ∈ F) => (S1.out.own.range q hq).2)
      have HC := Lib.hid (spec_copyN l _ _ w1 S1.out.own.lies (by omega) (fun i hi => by have := (hl.out.2 l[i] (List.getElem_mem hi)).n; omega))
      go_wp2_with fail
      refine HC.out.mono ?_
      rintro e w2 ⟨v2, rfl, hrow2, hb2⟩
      obtain ⟨B2, d2, rfl⟩ := hrow2.is_slice
      have S2 := Lib.hid (S1.out.below hclt hb2)
      have HN := Lib.hid (need_any c A len cap z w2 S2.out.cur)
      have Hrow2 := Lib.hid hrow2
      have Hsz2 := Lib.hid hb2.size
      have hcw1 : c < w1.heap.size := S1.out.cur.lt
      clear hrow2 hb2 HC S1
      go_wp2_with fail
      refine HN.out.mono ?_
      rintro e w3 ⟨y, us, G, hy, rfl, hoG, hnG, hc3, hg3⟩
      obtain ⟨u0, u1, u2, rfl⟩ := us3 hoG
      have S3 := Lib.hid (S2.out.turn hclt hc3 hg3)
      obtain ⟨xs, F2, hr1, hr2, hr3, hr4, hr5⟩ := Hrow2.out
      have hFG : ∀ q ∈ F2, q ∉ G := fun q hq hqG => by
        have h1 := (hoG.range q hqG).1
        have h2 := (hr3.range q hq).2
        omega
      have hvG : ∀ q ∈ G, (Value.slice B2 l.length d2).ownBlock ≠ some q := fun q hqG e => by
        have h1 := (hoG.range q hqG).1
        have h2 := (hr1.lt q e).2
        omega
      obtain ⟨X, hX⟩ : ∃ X, X = w3.alloc (.cells #[u0, u1, u2] 30) := ⟨_, rfl⟩
      have hbX : Below w3.heap.size w3 X := by rw [hX]; exact (Below.refl _ _).alloc (Nat.le_refl _) _
      have Hrd := Lib.hid (rdkN_row (w := X) (b := w3.heap.size) (us := [u0, u1, u2]) rfl (by rw [hX]; exact heap_alloc_new w3 _))
      have Hones := Lib.hid hoG.ones
      have HX := Lib.hid hX
      have SX := Lib.hid (S3.out.below hclt hbX)
      have HrX := Lib.hid (own_below' (row_curs hr1 hcw1 hg3) hbX)
      have hsX : w1.heap.size ≤ X.heap.size := Nat.le_trans Hsz2.out (Nat.le_trans hg3.size hbX.size)
      have HGrow := Lib.hid (fun (v5 : Value) (w5 : World) (hown5 : w5.ownsRow w1.heap.size 30 3 v5 (l.length + 1) (xs ++ [u0, u1, u2])) hg5 hat5 => OwnRow.grow (w := X) (f := 2) (m := 1) hr2 ((ownS_cur hr3 hcw1 hg3).below hbX) hr4 hr5 (Need.row_length y) ((hoG.lower Hsz2.out).below hbX) hnG hFG hvG hown5 hg5 hat5)
      have hyt := hl.out.snoc hy
      have HL := Lib.hid hyt
      have Hfl := Lib.hid (show (l ++ [y]).flatMap Need.row = l.flatMap Need.row ++ y.row by rw [List.flatMap_append]; simp)
      clear hX hbX hr1 hr2 hr3 hr4 hr5 hFG hvG hoG hnG hc3 hg3 HN S2 S3 Hrow2 hyt Hsz2
      go_wp2_with (first | (at_builtin; rw [← HX.out]; refine wpList_append_rdk rfl (.tmp 16) (.tmp 19) 24 rfl w1.heap.size 30 i0 _ 3 48 Tryd.underlying24 hi hz0 hz1 hz2 rfl (by decide) _ l.length xs rfl HrX.out (some ⟨w3.heap.size, 0, none⟩) 1 1 [u0, u1, u2] rfl Hrd.out Hones.out (by unfold maxLen; omega) (by omega) hsX ?_) | fail)
      intro v5 w5 hown5 hg5 hat5
      have hrow5 := HGrow.out v5 w5 hown5 hg5 hat5
      rw [← Hfl.out] at hrow5
      have hb5 : Below w1.heap.size X w5 := (Below.refl _ _).grown hg5 hsX (fun b hb => (HrX.out.lt b hb).1)
      obtain ⟨A5, c5, rfl⟩ := own_is_slice hown5
      have S5 := Lib.hid (show StN w c A len cap z (.slice Ao l.length co) l f F w5 from ⟨SX.out.cur.below hb5 hcw1, grown_below SX.out.grown (hb5.mono (by have := S1size.out; omega)), Own.kept (fun q hq => hb5.block q (S1rng.out q hq)) SX.out.own, SX.out.nd⟩)
      have HS := Lib.hid (spec_sortN (l ++ [y]) 3 (.slice A5 (l.length + 1) c5) w5 (by
        obtain ⟨F5, ho5, _⟩ := hrow5.own
        have hlen : (l ++ [y]).length = l.length + 1 := by simp
        rw [hlen]
        exact ho5.lies) (HL.out.wts (by decide) (by decide)))
      have HP := Lib.hid (fun h => tiny_sorted HL.out h)
      clear hown5 hg5 hat5 hrow5 hb5 SX HrX HGrow Hrd Hones HL Hfl HX
      generalize sortN (l ++ [y]) = r at HS HP
      obtain ⟨r1, r2⟩ := r
      go_wp2_with fail
      refine HS.out.mono ?_
      rintro e w6 ⟨v6, f6, F6, rfl, ho6, hn6, hb6⟩
      have S6 := Lib.hid (S5.out.below hclt hb6)
      have S6' := Lib.hid (show StN w c A len cap z v6 r1 f6 F6 w6 from ⟨S6.out.cur, S6.out.grown, ho6.lower S5.out.grown.size, hn6⟩)
      obtain ⟨A6, c6, rfl, _⟩ := els_of Need.row_length ho6.lies
      clear ho6 hn6 hb6 S5 HS
      cases r2 with
      | true =>
        have Ht := Lib.hid (HP.out rfl)
        clear HP S6
        go_wp2_with fail
        go_roundw
        case rel => exact ⟨j + 1, r1, f6, F6, by omega, by go_num, Ht.out, S6'.out⟩
        case measure => simp [intOf]; omega
      | false =>
        clear HP S6'
        go_wp2_with fail
        go_roundw
        case rel => exact ⟨j + 1, l, f, F, by omega, by go_num, hl.out, S6.out⟩
        case measure => simp [intOf]; omega
    · have HR := Lib.hid (S1.out.got hl.out)
      go_wp2_with fail
      go_ret
      exact HR.out
end Go.Proofs.YtjcfaepklakpkaaDoor.draw
