/- impl.IndentedText. -/
import Derived.Test.YtbfkkaafkinpmaaGreatDoorGIndI
import Derived.Test.YtbfkkaafkinpmaaGreatDoorWrI
namespace Go.Proofs.YtbfkkaafkinpmaaGreatDoor.ind
open Go.ChangeShapes Go.WideShapes Go.ChangeAt Go.RowKit tree line
open rune (Tabs)
open decimal (Pow)
set_option linter.unusedVariables false

set_option maxRecDepth 100000 in
set_option maxHeartbeats 8000000 in
theorem impl_indent (f : Nat) (t : T) (vs : List Value) (w : World) (h : LiesS w f vs (row t)) (hsz : size t ≤ 1099511627776) (hP : Pow w) (hT : Tabs w) (hM : MaxL w) :
    Calls Tryz.prog 15 #[.agg vs.toArray] w fun e w' => e = .returned (.string (textI t)) ∧ Below w.heap.size w w' := by
  have hsm := rows_small (say.lies_nums _ _ _ w h)
  obtain ⟨u0, u1, u2, u3, u4, u5, rfl⟩ := six_of (h.1.trans (row_length _))
  obtain ⟨w1, hw1⟩ : ∃ w1, w1 = w.alloc (.cells #[u0, u1, u2, u3, u4, u5] 30) := ⟨_, rfl⟩
  have hb1 : Below w.heap.size w w1 := by rw [hw1]; exact alloc_below _ _
  have hs1 : w1.heap.size = w.heap.size + 1 := by rw [hw1]; simp
  have hrow1 : w1.heap[w.heap.size]? = some (.cells #[u0, u1, u2, u3, u4, u5] 30 (0, 0)) := by rw [hw1]; exact heap_alloc_new w _
  obtain ⟨w2, hw2⟩ : ∃ w2, w2 = w1.alloc (.cells #[.pointer none, .slice none 0 0] 48) := ⟨_, rfl⟩
  have hb2 : Below w1.heap.size w1 w2 := by rw [hw2]; exact alloc_below _ _
  have hbu2 : Lib.IsBuilder 48 5 w1.heap.size w1.heap.size [] w2 := by rw [hw2]; exact Lib.fresh_isBuilder _ _ _
  have hrow2 := heap_kept hb2 (heap_lt hrow1) hrow1
  have HR := Lib.hid (impl_rows f t _ w2 ((h.below hb1).below hb2) hsz ((hP.below hb1).below hb2) ((hT.below hb1).below hb2) ((hM.below hb1).below hb2))
  rw [hs1] at hbu2
  have hlt2 : w.heap.size + 1 < w2.heap.size := by rcases hbu2 with h | h <;> exact h.lt
  have Hb1 := Lib.hid hb1
  have Hb2 := Lib.hid (show Below (w.heap.size + 1) w1 w2 from hb2.mono (by omega))
  have Hbu2 := Lib.hid hbu2
  have Hlt2 := Lib.hid hlt2
  have Hs1 := Lib.hid hs1
  have Hw2 := Lib.hid (show w2 = (w.alloc (.cells #[u0, u1, u2, u3, u4, u5] 30)).alloc (.cells #[.pointer none, .slice none 0 0] 48) by rw [hw2, hw1])
  have Hn := Lib.hid hsm.1
  have Hz := Lib.hid hsm.2
  have Ht : Hid (textI t = if (linesB (rowsT t)).length ≤ 20000 then ⟨(linesB (rowsT t)).toArray⟩ else ⟨#[]⟩) := by unfold Hid textI; rfl
  obtain ⟨p0, p1, p2, p3, p4, p5⟩ := Row6.of hrow2
  generalize textI t = res at Ht ⊢
  generalize rowsT t = ls at HR Hn Hz Ht
  have hn := Hn.out
  clear h hb1 hrow1 hw1 hw2 hb2 hbu2 hrow2 hP hT hM hsm hs1 hsz hlt2
  go_enter Tryz.func15, Tryz.ntmps15
  go_upto_region 2 with fail
  rw [← Hw2.out]
  clear Hw2
  go_wp2_with fail
  refine HR.out.mono ?_
  rintro e w3 ⟨v3, rfl, hown3, hb3⟩
  obtain ⟨A3, c3, rfl⟩ := own_is_slice hown3
  have Hbu3 := Lib.hid (builder_below Hbu2.out hb3)
  have Hown3 := Lib.hid hown3
  have Hne3 := Lib.hid (show (Value.slice A3 ls.length c3).ownBlock ≠ some (w.heap.size + 1) from fun e => by have h1 := (hown3.lt _ e).1; have h2 := Hlt2.out; omega)
  have Hown3 := Lib.hid (own_lower hown3 (Nat.le_of_lt Hlt2.out))
  have Hb3 := Lib.hid (Hb2.out.trans (hb3.mono (Nat.le_of_lt Hlt2.out)))
  have Hlt3 := Lib.hid (Nat.lt_of_lt_of_le Hlt2.out hb3.size)
  have hnm : linesB (ls.take 0) = [] := rfl
  clear HR hown3 hb3 Hbu2 Hb2 Hlt2 p0 p1 p2 p3 p4 p5 hnm
  go_wp2_with fail
  go_loopw [10] (fun i wr => ∃ k : Nat, k ≤ ls.length ∧ i = .int .i64 k ∧ Hid (Lib.IsBuilderF 48 5 (w.heap.size + 1) (w.heap.size + 1) (Lib.byteCells (linesB (ls.take k))) wr) ∧ Hid (wr.ownsRow (w.heap.size + 1) 9 1 (.slice A3 ls.length c3) ls.length (scells ls)) ∧ Hid (Below (w.heap.size + 1) w1 wr ∧ w.heap.size + 1 < wr.heap.size)) (fun i _ => ls.length - (intOf i).toNat)
  case atStart => exact ⟨0, Nat.zero_le _, rfl, Lib.IsBuilderF.of Hbu3.out, Hown3.out, Hb3.out, Hlt3.out⟩
  case round =>
    clear Hbu3 Hown3 Hb3 Hlt3
    obtain ⟨k, hk, rfl, hbu, hown, hbel⟩ := hrel
    have hzt := linesB_take_le (c := 6420) (N := 300) Hz.out hn k
    by_cases hlt : k < ls.length
    · have Hst := Lib.hid (linesB_take hlt)
      obtain ⟨_, _, hA, hc7, hm7, hr⟩ := Rd.of_own hown.out
      obtain ⟨g, o, rfl, hg, hc0⟩ : ∃ g o, A3 = some ⟨g, o, none⟩ ∧ g < wr.heap.size ∧ ∀ j, j < ls.length → ∀ u, (scells ls)[j]? = some u → wr.cell? ⟨g, o + j, none⟩ = some u := by
        injection hA with h1 _ _
        rw [h1]
        exact hr.2 (by omega)
      have hcell := hc0 k hlt _ (scells_get ls k hlt)
      have hyz := Hz.out ls[k] (List.getElem_mem hlt)
      have hc3 : ls.length ≤ c3 := by injection hA with _ _ h3; omega
      clear hc0 hA hr
      generalize ls[k] = y at hcell hyz Hst
      have hadd : ¬ 9223372036854775807 < y.size + 1 := by omega
      have hyl : (y ++ ⟨#[10]⟩ : ByteArray).data.toList = y.data.toList ++ [10] := by simp
      have hyl2 : (y ++ ⟨#[10]⟩ : ByteArray).size = y.size + 1 := by rw [ByteArray.size_append]; rfl
      have HW := Lib.hid (impl_ws (w.heap.size + 1) (w.heap.size + 1) _ (y ++ ⟨#[10]⟩) wr hbu.out (by rw [hyl2]; omega) (Nat.le_of_lt hbel.out.2))
      rw [hyl] at HW
      have Hbel := Lib.hid hbel.out
      have Hown := Lib.hid hown.out
      clear hbu hyl hyl2 hzt hbel hown hc7 hm7
      go_wp2_with fail
      refine HW.out.mono ?_
      rintro e w4 ⟨rfl, hbu4, hb4, hk4⟩
      have Hbu4 := Lib.hid hbu4
      have Hown4 := Lib.hid (own_others Hown.out hk4 Hne3.out)
      have Hb4 := Lib.hid (show Below (w.heap.size + 1) w1 w4 ∧ w.heap.size + 1 < w4.heap.size from ⟨Hbel.out.1.trans hb4, Nat.lt_of_lt_of_le Hbel.out.2 hb4.size⟩)
      clear HW hbu4 hb4 hk4 Hbel Hown hcell
      go_wp2_with fail
      go_roundw
      case rel => exact ⟨k + 1, by omega, by go_num, by unfold Hid; rw [Hst.out]; exact Hbu4.out, Hown4.out, Hb4.out⟩
      case measure => simp [intOf]; omega
    · obtain rfl : k = ls.length := by omega
      rw [List.take_length] at hbu
      rw [List.take_length] at hzt
      have HB := Lib.hid (impl_bl _ _ _ _ hbu.out)
      have HBS := Lib.hid (impl_bs _ _ _ _ hbu.out (Nat.le_of_lt hbel.out.2))
      have Hbel := Lib.hid hbel.out.1
      obtain ⟨L, hL⟩ : ∃ L, L = linesB ls := ⟨_, rfl⟩
      rw [← hL] at HB HBS Ht hzt
      have HL := Lib.hid hL
      clear hbu hown hbel hL
      by_cases hlong : 20000 < L.length
      · have hres : res = ⟨#[]⟩ := by rw [Ht.out, if_neg (by omega)]
        have Hres := Lib.hid hres
        clear hres HBS
        go_wp2_with fail
        refine HB.out.mono ?_
        rintro e w5 ⟨rfl, rfl⟩
        clear HB
        go_wp2_with fail
        go_ret
        exact ⟨by rw [Hres.out]; rfl, Hb1.out.trans (Hbel.out.mono (by omega))⟩
      · have hres : res = ⟨L.toArray⟩ := by rw [Ht.out, if_pos (by omega)]
        have Hres := Lib.hid hres
        clear hres
        go_wp2_with fail
        refine HB.out.mono ?_
        rintro e w5 ⟨rfl, rfl⟩
        clear HB
        go_wp2_with fail
        refine HBS.out.mono ?_
        rintro e w6 ⟨rfl, hb6⟩
        have Hb6 := Lib.hid ((Hb1.out.trans (Hbel.out.mono (by omega))).trans (hb6.mono (by omega)))
        clear HBS hb6
        go_wp2_with fail
        go_ret
        exact ⟨by rw [Hres.out]; rfl, Hb6.out⟩
end Go.Proofs.YtbfkkaafkinpmaaGreatDoor.ind
