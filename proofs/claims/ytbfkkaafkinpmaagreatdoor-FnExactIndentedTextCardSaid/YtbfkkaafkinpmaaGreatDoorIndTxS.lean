/- spec.IndentedText. -/
import Derived.Test.YtbfkkaafkinpmaaGreatDoorGIndS
import Derived.Test.YtbfkkaafkinpmaaGreatDoorGArith
namespace Go.Proofs.YtbfkkaafkinpmaaGreatDoor.ind
open Go.ChangeShapes Go.WideShapes Go.ChangeAt Go.RowKit tree line
set_option linter.unusedVariables false

set_option maxRecDepth 100000 in
set_option maxHeartbeats 8000000 in
theorem spec_indent (f : Nat) (t : T) (vs : List Value) (w : World) (h : LiesS w f vs (row t)) (hsz : size t ≤ 1099511627776) :
    Calls Tryz.prog 14 #[.agg vs.toArray] w fun e w' => e = .returned (.string (textI t)) ∧ Below w.heap.size w w' := by
  obtain ⟨i0, hi, hz0, hz1, hz2⟩ := info_parts binfo.Tryzinfo
  have hsm := rows_small (say.lies_nums _ _ _ w h)
  obtain ⟨u0, u1, u2, u3, u4, u5, rfl⟩ := six_of (h.1.trans (row_length _))
  obtain ⟨w1, hw1⟩ : ∃ w1, w1 = w.alloc (.cells #[u0, u1, u2, u3, u4, u5] 30) := ⟨_, rfl⟩
  have hb1 : Below w.heap.size w w1 := by rw [hw1]; exact alloc_below _ _
  have hrow1 : w1.heap[w.heap.size]? = some (.cells #[u0, u1, u2, u3, u4, u5] 30 (0, 0)) := by rw [hw1]; exact heap_alloc_new w _
  have HR := Lib.hid (spec_rows f t _ w1 (h.below hb1) hsz)
  have Hb1 := Lib.hid hb1
  have Hw1 := Lib.hid hw1
  have Hn := Lib.hid hsm.1
  have Hz := Lib.hid hsm.2
  have Ht : Hid (textI t = if (linesB (rowsT t)).length ≤ 20000 then ⟨(linesB (rowsT t)).toArray⟩ else ⟨#[]⟩) := by unfold Hid textI; rfl
  obtain ⟨p0, p1, p2, p3, p4, p5⟩ := Row6.of hrow1
  rw [hw1] at p0 p1 p2 p3 p4 p5
  generalize textI t = res at Ht ⊢
  generalize rowsT t = ls at HR Hn Hz Ht
  have hn := Hn.out
  clear h hb1 hrow1 hw1 hsm hsz
  go_enter Tryz.func14, Tryz.ntmps14
  go_wp2_with fail
  rw [← Hw1.out]
  refine HR.out.mono ?_
  rintro e w2 ⟨v2, rfl, hown2, hb2⟩
  obtain ⟨A2, c2, rfl, hc2, hm2, hr2⟩ := Rd.of_own hown2
  have Hb2 := Lib.hid (below_link Hb1.out hb2 Hb1.out.size)
  have Hr2 := Lib.hid hr2
  clear HR hown2 hb2 hr2 p0 p1 p2 p3 p4 p5 Hw1
  obtain ⟨w3, hw3⟩ : ∃ w3, w3 = w2.alloc (.cells #[] 5) := ⟨_, rfl⟩
  have hb3 : Below w2.heap.size w2 w3 := by rw [hw3]; exact alloc_below _ _
  have hown3 : w3.ownsRow w2.heap.size 5 1 (.slice (some ⟨w2.heap.size, 0, none⟩) 0 0) 0 (bcells []) := by rw [hw3]; exact World.ownsRow_lit w2 #[] 0 (Nat.le_refl _) (by simp [maxLen]) rfl
  have Hb3 := Lib.hid hb3
  have Hown3 := Lib.hid hown3
  have Hw3 := Lib.hid hw3
  clear hb3 hown3 hw3
  go_upto_region 3 with fail
  rw [← Hw3.out]
  clear Hw3
  go_wp2_with fail
  go_loopw [4, 5] (fun v i wr => ∃ (k m : Nat) (l : List UInt8), k ≤ ls.length ∧ i = .int .i64 k ∧ l.length = m ∧ Hid (l = linesB (ls.take k)) ∧ wr.ownsRow w2.heap.size 5 1 v m (bcells l) ∧ Below w2.heap.size w2 wr) (fun _ i _ => ls.length - (intOf i).toNat)
  case atStart => exact ⟨0, 0, [], Nat.zero_le _, rfl, rfl, rfl, Hown3.out, Hb3.out⟩
  case round =>
    clear Hown3 Hb3
    obtain ⟨k, m, l, hk, rfl, hlm, hl, hown, hbel⟩ := hrel
    have hszr := hbel.size
    have hzt := linesB_take_le (c := 6420) (N := 300) Hz.out hn k
    rw [← hl.out, hlm] at hzt
    by_cases hlt : k < ls.length
    · have Hst := Lib.hid (linesB_take hlt)
      obtain ⟨g, o, rfl, hg, hc0⟩ := Hr2.out.2 (by omega)
      have hcell : wr.cell? ⟨g, o + k, none⟩ = some (.string ls[k]) := (hbel.cell (p := ⟨g, o + k, none⟩) hg).trans (hc0 k hlt _ (scells_get ls k hlt))
      have hyz := Hz.out ls[k] (List.getElem_mem hlt)
      have Hl := Lib.hid hl.out
      have Hlm := Lib.hid hlm
      clear hc0 hl hlm
      generalize ls[k] = y at hcell hyz Hst
      go_wp2_with (first | (at_builtin; refine Lib.wpList_append_own_string _ rfl (.tmp 15) (.tmp 19) 45 9 rfl w2.heap.size 5 i0 Tryz.underlying45 Tryz.underlying9 hi hz0 hz1 hz2 _ m _ rfl hown y rfl (by unfold maxLen; omega) (by omega) hszr ?_) | fail)
      intro v4 w4 hown4 hg4 _
      have hb4 := hbel.grown hg4 hszr (fun b hb => (hown.lt b hb).1)
      have hown5 : w4.ownsRow w2.heap.size 5 1 v4 (m + y.size) (bcells (l ++ y.data.toList)) := by rw [bcells_append]; exact hown4
      have hsz4 := hb4.size
      clear hown4 hg4 hown hbel hcell
      go_wp2_with (first | (at_builtin; refine wpList_append_own _ rfl (.tmp 21) (.tmp 22) 45 rfl w2.heap.size 5 i0 (.int .u8 0) 1 1 Tryz.underlying45 hi hz0 hz1 hz2 rfl (by decide) _ (m + y.size) _ rfl (hown5.alloc _) ⟨w4.heap.size, 0, none⟩ 1 1 [.int .u8 10] rfl rfl (by exact lit_cells _ _ _) (binfo.one_cell _) (by unfold maxLen; omega) (by omega) (by simp; omega) ?_) | fail)
      intro v6 w6 hown6 hg6 _
      have Hb6 := Lib.hid ((hb4.alloc hsz4 _).grown hg6 (by simp; omega) (fun b hb => (hown5.lt b hb).1))
      have Hown6 := Lib.hid (show w6.ownsRow w2.heap.size 5 1 v6 (m + y.size + 1) (bcells (l ++ (y.data.toList ++ [10]))) by
        rw [← List.append_assoc, bcells_append]
        exact hown6)
      have hyl : y.data.toList.length = y.size := by simp
      have Hyl := Lib.hid hyl
      clear hown6 hg6 hown5 hb4 hyl
      go_wp2_with fail
      go_roundw
      case rel => exact ⟨k + 1, m + y.size + 1, _, by omega, by go_num, by rw [List.length_append, List.length_append, Hlm.out, Hyl.out, List.length_singleton]; omega, by unfold Hid; rw [Hst.out, Hl.out], Hown6.out, Hb6.out⟩
      case measure => simp [intOf]; omega
    · obtain rfl : k = ls.length := by omega
      rw [List.take_length] at hl
      have Hbel := Lib.hid hbel
      have Hl := Lib.hid hl.out
      have hconv := run_convert_own (P := Tryz.prog) wr 45 5 9 Tryz.underlying45 Tryz.underlying5 Tryz.underlying9 w2.heap.size _ l (by unfold OwnB; rw [hlm]; exact hown)
      obtain ⟨A9, c9, rfl, hn9, hc9, hr9⟩ := Rd.of_own hown
      by_cases hlong : 20000 < m
      · have hres : res = ⟨#[]⟩ := by rw [Ht.out, ← Hl.out, if_neg (by omega)]
        have Hres := Lib.hid hres
        clear hres hconv hl hown hbel hr9 hlm
        go_wp2_with fail
        go_ret
        exact ⟨by rw [Hres.out]; rfl, below_link Hb2.out Hbel.out Hb2.out.size⟩
      · have hres : res = ⟨l.toArray⟩ := by rw [Ht.out, ← Hl.out, if_pos (by omega)]
        have Hres := Lib.hid hres
        clear hres hl hown hbel hr9 hlm
        go_wp2_with fail
        go_ret
        exact ⟨by rw [Hres.out]; rfl, below_link Hb2.out Hbel.out Hb2.out.size⟩
end Go.Proofs.YtbfkkaafkinpmaaGreatDoor.ind
