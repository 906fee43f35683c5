/- impl.SameTree: two trees compared by a stack of pairs of places. -/
import Derived.Test.YtlnfbpdicjcpgaaDoorSmM
import Derived.Test.YtlnfbpdicjcpgaaDoorTrSameS
import Derived.Deep.LoopGhost
import Derived.Deep.WholeRow
import Derived.WalkMore
import Derived.StillTailTactics
import Derived.Test.YtlnfbpdicjcpgaaDoorRows
import Derived.ProofKit
import Derived.OpenShut
namespace Go.Proofs.YtlnfbpdicjcpgaaDoor.tree
open Go.ChangeShapes Go.WideShapes Go.ChangeAt Go.RowKit
set_option linter.unusedVariables false

theorem TrydinfoPair : (Tryd.prog.info? 73).map (fun i => (i.zero, i.size, i.bytes)) = some (some (.agg #[.pointer none, .pointer none]), 2, 16) := by kernel_rfl

set_option maxRecDepth 100000 in
set_option maxHeartbeats 16000000 in
theorem impl_same (f g : Nat) (a b : T) (vs us : List Value) (w : World) (h1 : LiesS w f vs (row a)) (h2 : LiesS w g us (row b)) (hsz : size a ≤ 1099511627776) :
    Calls Tryd.prog 28 #[.agg vs.toArray, .agg us.toArray] w fun e w' => e = .returned (.bool (same a b)) ∧ Below w.heap.size w w' := by
  obtain ⟨k, hk⟩ : ∃ k, k = max f g := ⟨_, rfl⟩
  have h1 := h1.deeper (show f ≤ k by omega)
  have h2 := h2.deeper (show g ≤ k by omega)
  clear hk
  obtain ⟨u0, u1, u2, u3, u4, u5, rfl⟩ := six_of (h1.1.trans (row_length a))
  obtain ⟨v0, v1, v2, v3, v4, v5, rfl⟩ := six_of (h2.1.trans (row_length b))
  obtain ⟨i0, hi, hz0, hz1, hz2⟩ := info_parts TrydinfoPair
  obtain ⟨w1, hw1⟩ : ∃ w1, w1 = (w.alloc (.cells #[u0, u1, u2, u3, u4, u5] 29)).alloc (.cells #[v0, v1, v2, v3, v4, v5] 29) := ⟨_, rfl⟩
  have hs1 : w1.heap.size = w.heap.size + 2 := by rw [hw1]; simp
  have hb1 : Below w.heap.size w w1 := by rw [hw1]; exact ((Below.refl _ _).alloc (Nat.le_refl _) _).alloc (by simp) _
  have r0 : w1.heap[w.heap.size]? = some (.cells #[u0, u1, u2, u3, u4, u5] 29 (0, 0)) := by
    rw [hw1, Below.heap_alloc _ _ _ (by simp)]
    exact heap_alloc_new w _
  have r1 : w1.heap[w.heap.size + 1]? = some (.cells #[v0, v1, v2, v3, v4, v5] 29 (0, 0)) := by
    have h := heap_alloc_new (w.alloc (.cells #[u0, u1, u2, u3, u4, u5] 29)) (.cells #[v0, v1, v2, v3, v4, v5] 29)
    rw [World.size_alloc] at h
    rw [hw1]
    exact h
  obtain ⟨w2, hw2⟩ : ∃ w2, w2 = w1.alloc (.cells #[.pointer (some ⟨w.heap.size, 0, none⟩), .pointer (some ⟨w.heap.size + 1, 0, none⟩)] 73) := ⟨_, rfl⟩
  have hb2 : Below w1.heap.size w1 w2 := by rw [hw2]; exact (Below.refl _ _).alloc (Nat.le_refl _) _
  have hown : w2.ownsRow w1.heap.size 73 2 (.slice (some ⟨w.heap.size + 1 + 1, 0, none⟩) 1 1) 1 [.pointer (some ⟨w.heap.size, 0, none⟩), .pointer (some ⟨w.heap.size + 1, 0, none⟩)] := by
    have h := World.ownsRow_lit (size := 2) (base := w1.heap.size) (e := 73) w1 #[.pointer (some ⟨w.heap.size, 0, none⟩), .pointer (some ⟨w.heap.size + 1, 0, none⟩)] 1 (Nat.le_refl _) (by simp [maxLen]) rfl
    rw [hs1] at h ⊢
    rw [hw2]
    exact h
  have HS := Lib.hid (show SmS w1 k a b 73 (.slice (some ⟨w.heap.size + 1 + 1, 0, none⟩) 1 1) w2 [((w.heap.size, 0, a), (w.heap.size + 1, 0, b))] from
    ⟨hown, fun p hp => by
      obtain rfl := List.mem_singleton.1 hp
      refine ⟨⟨by show w.heap.size < _; omega, _, ⟨rfl, fun j u hu => ?_⟩, h1.below hb1⟩, ⟨by show w.heap.size + 1 < _; omega, _, ⟨rfl, fun j u hu => ?_⟩, h2.below hb1⟩⟩
      · show w1.cell? ⟨w.heap.size, 0 + j, none⟩ = some u
        rw [cell_of_row w1 _ _ _ _ (0, 0) r0, Nat.zero_add]
        simpa using hu
      · show w1.cell? ⟨w.heap.size + 1, 0 + j, none⟩ = some u
        rw [cell_of_row w1 _ _ _ _ (0, 0) r1, Nat.zero_add]
        simpa using hu, hb2, by simp, by simp [sizesP]⟩)
  obtain ⟨R, hR⟩ : ∃ R, same a b = R := ⟨_, rfl⟩
  rw [hR]
  have HR := Lib.hid hR
  have Hsz := Lib.hid hsz
  have Hw1 := Lib.hid hw1
  have Hw2 := Lib.hid hw2
  have Hb1 := Lib.hid hb1
  have Hs1 := Lib.hid hs1
  clear h1 h2 hsz hw1 hw2 hb1 hs1 hb2 r0 r1 hown hR
  go_enter Tryd.func28, Tryd.ntmps28
  go_wp2_with fail
  rw [← Hw1.out, ← Hw2.out]
  go_loopg [5] (sizesP [((w.heap.size, 0, a), (w.heap.size + 1, 0, b))]) (fun kk r wr => ∃ (todo : List Pr), kk = sizesP todo ∧ Hid (SmS w1 k a b 73 r wr todo))
  case atStart => exact ⟨_, rfl, HS.out⟩
  case round =>
    obtain ⟨todo, rfl, hC⟩ := hrel
    cases todo with
    | nil =>
      obtain ⟨A, c, rfl⟩ := own_is_slice hC.out.own
      have Hend := Lib.hid (show R = true by
        rw [← HR.out, hC.out.iff.2 (fun p hp => by cases hp), same_refl])
      have HC := Lib.hid hC.out
      clear hC
      go_wp2_with fail
      go_ret
      exact ⟨by rw [Hend.out]; rfl, Hb1.out.trans (HC.out.bel.mono Hb1.out.size)⟩
    | cons p todo =>
      obtain ⟨⟨ga, oa, x⟩, ⟨gb, ob, y⟩⟩ := p
      obtain ⟨gs, cap, rfl⟩ := ownsRow_succ hC.out.own
      obtain ⟨hc', hd', hcap, hpop⟩ := pair_top rfl hC.out.own
      have hc : wr.cell? ⟨gs, todo.length * 2, none⟩ = some (.pointer (some ⟨ga, oa, none⟩)) := hc'
      have hd : wr.cell? ⟨gs, todo.length * 2 + 1, none⟩ = some (.pointer (some ⟨gb, ob, none⟩)) := hd'
      clear hc' hd'
      obtain ⟨hx, hy⟩ := hC.out.at1 _ List.mem_cons_self
      have hbd : (todo.length : Int) + 1 ≤ 9223372036854775807 := by
        have h1 := sizesP_length (((ga, oa, x), (gb, ob, y)) :: todo)
        have h2 := hC.out.bd
        have h3 := Hsz.out
        rw [List.length_cons] at h1
        omega
      have e1 : ((todo.length + 1 : Nat) : Int) - 1 = (todo.length : Int) := by omega
      obtain ⟨W2, hW2⟩ : ∃ W2, W2 = wr.alloc (.cells #[.pointer (some ⟨ga, oa, none⟩), .pointer (some ⟨gb, ob, none⟩)] 73) := ⟨_, rfl⟩
      have hb2 : Below wr.heap.size wr W2 := by rw [hW2]; exact (Below.refl _ _).alloc (Nat.le_refl _) _
      have hn2 : W2.heap[wr.heap.size]? = some (.cells #[.pointer (some ⟨ga, oa, none⟩), .pointer (some ⟨gb, ob, none⟩)] 73 (0, 0)) := by rw [hW2]; exact heap_alloc_new wr _
      have hbw2 : Below w1.heap.size w1 W2 := hC.out.bel.trans (hb2.mono hC.out.bel.size)
      obtain ⟨hga, xs, ⟨hx6, hxc⟩, hxl⟩ := hx
      obtain ⟨hgb, ys, ⟨hy6, hyc⟩, hyl⟩ := hy
      obtain ⟨x0, x1, x2, x3, x4, x5, rfl⟩ := six_of hx6
      obtain ⟨y0, y1, y2, y3, y4, y5, rfl⟩ := six_of hy6
      obtain ⟨A5, c5, g5, o5, rfl, hxk1, hxk2, hxA, hxat⟩ := at_kids hxl
      obtain ⟨B5, d5, g6, o6, rfl, hyk1, hyk2, hyA, hyat⟩ := at_kids hyl
      have HC := Lib.hid hC.out
      have Hpop := Lib.hid hpop
      have Hxc := Lib.hid (fun w' (hb : Below w1.heap.size w1 w') j u (hu : [x0, x1, x2, x3, x4, .slice A5 x.kids.length c5][j]? = some u) => (World.cell?_of_block (hb.block _ hga)).trans (hxc j u hu))
      have Hyc := Lib.hid (fun w' (hb : Below w1.heap.size w1 w') j u (hu : [y0, y1, y2, y3, y4, .slice B5 y.kids.length d5][j]? = some u) => (World.cell?_of_block (hb.block _ hgb)).trans (hyc j u hu))
      have HF := Lib.hid (fun w' (hb : Below w1.heap.size w1 w') => impl_fields x y _ _ w' (hxl.below hb) (hyl.below hb))
      have HW2 := Lib.hid hW2
      have Hb2 := Lib.hid hb2
      have Hn2 := Lib.hid hn2
      have Hbw2 := Lib.hid hbw2
      have Hxat := Lib.hid hxat
      have Hyat := Lib.hid hyat
      have HxA := Lib.hid hxA
      have HyA := Lib.hid hyA
      have Hxk := Lib.hid (show x.kids.length ≤ c5 ∧ c5 ≤ maxLen from ⟨hxk1, hxk2⟩)
      have Hyk := Lib.hid (show y.kids.length ≤ d5 ∧ d5 ≤ maxLen from ⟨hyk1, hyk2⟩)
      clear hC hpop hW2 hb2 hn2 hbw2 hga hgb hx6 hy6 hxc hyc hxl hyl hxat hyat hxA hyA hxk1 hxk2 hyk1 hyk2
      go_wp2_with fail
      rw [← HW2.out]
      have a0 : W2.cell? ⟨ga, oa, none⟩ = some x0 := Hxc.out W2 Hbw2.out 0 _ rfl
      have a1 : W2.cell? ⟨ga, oa + 1, none⟩ = some x1 := Hxc.out W2 Hbw2.out 1 _ rfl
      have a2 : W2.cell? ⟨ga, oa + 2, none⟩ = some x2 := Hxc.out W2 Hbw2.out 2 _ rfl
      have a3 : W2.cell? ⟨ga, oa + 3, none⟩ = some x3 := Hxc.out W2 Hbw2.out 3 _ rfl
      have a4 : W2.cell? ⟨ga, oa + 4, none⟩ = some x4 := Hxc.out W2 Hbw2.out 4 _ rfl
      have a5 : W2.cell? ⟨ga, oa + 5, none⟩ = some (.slice A5 x.kids.length c5) := Hxc.out W2 Hbw2.out 5 _ rfl
      have b0 : W2.cell? ⟨gb, ob, none⟩ = some y0 := Hyc.out W2 Hbw2.out 0 _ rfl
      have b1 : W2.cell? ⟨gb, ob + 1, none⟩ = some y1 := Hyc.out W2 Hbw2.out 1 _ rfl
      have b2 : W2.cell? ⟨gb, ob + 2, none⟩ = some y2 := Hyc.out W2 Hbw2.out 2 _ rfl
      have b3 : W2.cell? ⟨gb, ob + 3, none⟩ = some y3 := Hyc.out W2 Hbw2.out 3 _ rfl
      have b4 : W2.cell? ⟨gb, ob + 4, none⟩ = some y4 := Hyc.out W2 Hbw2.out 4 _ rfl
      have b5 : W2.cell? ⟨gb, ob + 5, none⟩ = some (.slice B5 y.kids.length d5) := Hyc.out W2 Hbw2.out 5 _ rfl
      have t0 : W2.cell? ⟨wr.heap.size, 0, none⟩ = some (.pointer (some ⟨ga, oa, none⟩)) := by rw [cell_of_row W2 _ 0 _ _ (0, 0) Hn2.out]; rfl
      have t1 : W2.cell? ⟨wr.heap.size, 1, none⟩ = some (.pointer (some ⟨gb, ob, none⟩)) := by rw [cell_of_row W2 _ 1 _ _ (0, 0) Hn2.out]; rfl
      clear hc hd
      go_still_tail 8, (by kernel_rfl)
      change wpList _ _ _ _ _ W2.drew
      obtain ⟨W3, hW3⟩ : ∃ W3, W3 = W2.drew := ⟨_, rfl⟩
      have hb3 : Below W2.heap.size W2 W3 := by rw [hW3]; exact (Below.refl _ _).drew
      rw [← hW3]
      have Hbw3 := Lib.hid (Hbw2.out.trans (hb3.mono Hbw2.out.size))
      have Hn3 := Lib.hid ((hb3.block _ (heap_lt Hn2.out)).trans Hn2.out)
      have Hb3 := Lib.hid (Hb2.out.trans (hb3.mono Hb2.out.size))
      clear hW3 hb3 a0 a1 a2 a3 a4 a5 b0 b1 b2 b3 b4 b5 t0 t1
      go_wp2_with fail
      refine (HF.out W3 Hbw3.out).mono ?_
      rintro e W4 ⟨rfl, hb4⟩
      have Hbw4 := Lib.hid (Hbw3.out.trans (hb4.mono Hbw3.out.size))
      have Hn4 := Lib.hid ((hb4.block _ (heap_lt Hn3.out)).trans Hn3.out)
      have Hb4 := Lib.hid (Hb3.out.trans (hb4.mono Hb3.out.size))
      clear hb4
      cases hF : sameF x y with
      | false =>
        have Hend := Lib.hid (show R = false by
          rw [← HR.out]
          exact same_ne (fun e => differ_fields hF (HC.out.iff.1 e _ List.mem_cons_self)))
        clear hF
        go_wp2_with fail
        go_ret
        exact ⟨by rw [Hend.out]; rfl, Hb1.out.trans (Hbw4.out.mono Hb1.out.size)⟩
      | true =>
        have Hlen := Lib.hid (same_fields hF).2
        have HFt := Lib.hid hF
        have a5 : W4.cell? ⟨ga, oa + 5, none⟩ = some (.slice A5 x.kids.length c5) := Hxc.out W4 Hbw4.out 5 _ rfl
        have t0 : W4.cell? ⟨wr.heap.size, 0, none⟩ = some (.pointer (some ⟨ga, oa, none⟩)) := by rw [cell_of_row W4 _ 0 _ _ (0, 0) Hn4.out]; rfl
        have hin : W4.ownsRow w1.heap.size 73 2 (.slice (some ⟨gs, 0, none⟩) todo.length cap) (0 + todo.length) (pcells (prs g5 o5 g6 o6 x.kids y.kids 0 ++ todo).reverse) := by
          rw [Nat.zero_add]
          exact own_below' Hpop.out Hb4.out
        have Hin := Lib.hid hin
        have Hgs := Lib.hid (show gs ≠ wr.heap.size from fun e => by have := (Hpop.out.lt gs rfl).2; omega)
        obtain ⟨nb, hnb⟩ : ∃ nb, nb = wr.heap.size := ⟨_, rfl⟩
        rw [← hnb] at Hn4 t0 Hgs ⊢
        have Hnb := Lib.hid (show w1.heap.size ≤ nb by rw [hnb]; exact HC.out.bel.size)
        clear hF hin hnb
        go_wp2_with fail
        go_loopw [5, 40] (fun r i wD => ∃ (j : Nat), j ≤ x.kids.length ∧ i = .int .i64 j ∧ Hid (wD.ownsRow w1.heap.size 73 2 r (j + todo.length) (pcells (prs g5 o5 g6 o6 x.kids y.kids j ++ todo).reverse) ∧ Below w1.heap.size w1 wD ∧ wD.heap[nb]? = some (.cells #[.pointer (some ⟨ga, oa, none⟩), .pointer (some ⟨gb, ob, none⟩)] 73 (0, 0)) ∧ r.ownBlock ≠ some nb)) (fun _ i _ => x.kids.length - (intOf i).toNat)
        case atStart => exact ⟨0, Nat.zero_le _, rfl, Hin.out, Hbw4.out, Hn4.out, fun e => Hgs.out (by simpa [Value.ownBlock] using e)⟩
        case round =>
          obtain ⟨j, hj, rfl, hin⟩ := hrel
          obtain ⟨Ar, cr, rfl⟩ := own_is_slice hin.out.1
          have Hin2 := Lib.hid hin.out
          clear Hin hin a5 t0
          by_cases hlt : j < x.kids.length
          · obtain rfl := HxA.out (by omega)
            obtain rfl := HyA.out (by have := Hlen.out; omega)
            have a5 : wr.cell? ⟨ga, oa + 5, none⟩ = some (.slice (some ⟨g5, o5, none⟩) x.kids.length c5) := Hxc.out wr Hin2.out.2.1 5 _ rfl
            have b5 : wr.cell? ⟨gb, ob + 5, none⟩ = some (.slice (some ⟨g6, o6, none⟩) y.kids.length d5) := Hyc.out wr Hin2.out.2.1 5 _ rfl
            have t0 : wr.cell? ⟨nb, 0, none⟩ = some (.pointer (some ⟨ga, oa, none⟩)) := by rw [cell_of_row wr _ 0 _ _ (0, 0) Hin2.out.2.2.1]; rfl
            have t1 : wr.cell? ⟨nb, 1, none⟩ = some (.pointer (some ⟨gb, ob, none⟩)) := by rw [cell_of_row wr _ 1 _ _ (0, 0) Hin2.out.2.2.1]; rfl
            have hlt2 : j < y.kids.length := by have := Hlen.out; omega
            have hbd7 : (j : Int) + todo.length + 1 ≤ 2199023255552 := by
              have h1 := sizesP_length (((ga, oa, x), (gb, ob, y)) :: todo)
              have h2 := HC.out.bd
              have h3 := Hsz.out
              have h4 := size_le_len x
              rw [sizesP] at h2
              have h5 := sizesP_length todo
              rw [List.length_cons] at h1
              simp only at h2
              omega
            have hjb : (j : Int) + 1 ≤ 9223372036854775807 := by omega
            have Hbd7 := Lib.hid hbd7
            clear hbd7
            have hb6 : Below wr.heap.size wr (wr.drew.alloc (.cells #[.pointer (some ⟨g5, o5 + j * 6, none⟩), .pointer (some ⟨g6, o6 + j * 6, none⟩)] 73)) := (Below.refl _ _).drew.alloc (Nat.le_refl _) _
            have hown6 := own_below' Hin2.out.1 hb6
            have hs6 : w1.heap.size ≤ (wr.drew.alloc (.cells #[.pointer (some ⟨g5, o5 + j * 6, none⟩), .pointer (some ⟨g6, o6 + j * 6, none⟩)] 73)).heap.size := by have := hb6.size; have := Hin2.out.2.1.size; omega
            have Hb6 := Lib.hid hb6
            have Hown6 := Lib.hid hown6
            have Hs6 := Lib.hid hs6
            clear hb6 hown6 hs6
            go_wp2_with fail
            go_region_law (first | (refine step_append_at rfl (.tmp 43) (.tmp 59) 74 rfl w1.heap.size 73 i0 _ 2 16 Tryd.underlying74 hi hz0 hz1 hz2 rfl (by decide) _ _ _ rfl Hown6.out ⟨wr.heap.size, 0, none⟩ 1 1 [.pointer (some ⟨g5, o5 + j * 6, none⟩), .pointer (some ⟨g6, o6 + j * 6, none⟩)] rfl rfl (by exact lit_cells _ _ _) (by simp [Value.oneCell']) (by have := Hbd7.out; unfold maxLen; omega) (by have := Hbd7.out; omega) Hs6.out ?_; intro v8 W8 hown8 hgr8 hat8; obtain ⟨A8, c8, rfl⟩ := own_is_slice hown8))
            all_goals
              have hlt8 := heap_lt Hin2.out.2.2.1
              have Hown8 := Lib.hid (show W8.ownsRow w1.heap.size 73 2 (.slice A8 (j + todo.length + 1) c8) (j + 1 + todo.length) (pcells (prs g5 o5 g6 o6 x.kids y.kids (j + 1) ++ todo).reverse) by
                rw [prs_push, show j + 1 + todo.length = j + todo.length + 1 by omega]
                simpa using hown8)
              have Hb8 := Lib.hid ((Hin2.out.2.1.trans (Hb6.out.mono Hin2.out.2.1.size)).grown hgr8 Hs6.out (fun b hb => (Hin2.out.1.lt b hb).1))
              have Hn8 := Lib.hid (((hgr8.block nb (Nat.lt_of_lt_of_le hlt8 Hb6.out.size) (fun e => Hin2.out.2.2.2 e.symm)).trans (Hb6.out.block nb hlt8)).trans Hin2.out.2.2.1)
              have Hne8 := Lib.hid (show (Value.slice A8 (j + todo.length + 1) c8).ownBlock ≠ some nb from fun e => by
                rcases hat8 with h | h
                · exact Hin2.out.2.2.2 (h.symm.trans e)
                · rw [e] at h
                  have h4 : nb = wr.heap.size + 1 := (Option.some.inj h).trans (by first | (simp; done) | rfl)
                  omega)
              clear hown8 hgr8 hat8 Hown6 Hb6 Hs6 hlt8
              go_wp2_with fail
              go_roundw
              case rel => exact ⟨j + 1, by omega, by go_num, Hown8.out, Hb8.out, Hn8.out, Hne8.out⟩
              case measure => simp [intOf]; omega
          · obtain rfl : j = x.kids.length := by omega
            have HCn := Lib.hid (sm_step HC.out HFt.out Hin2.out.1 Hin2.out.2.1 Hxat.out Hyat.out)
            clear Hin2
            go_wp2_with fail
            go_roundg (sizesP (prs g5 o5 g6 o6 x.kids y.kids x.kids.length ++ todo))
            case measure =>
              rw [sizesP_append, sizesP_prs g5 o5 g6 o6 _ _ _ (Nat.le_refl _), List.take_of_length_le (Nat.le_refl _), sizesP]
              have := size_kids x
              simp only
              omega
            case rel => exact ⟨_, rfl, HCn.out⟩
end Go.Proofs.YtlnfbpdicjcpgaaDoor.tree
