/- Drawn lists: l16Tolerances. Printed by gen/gen_dl.py. -/
import Derived.Test.YtpadpiibiocabaaDoorGDrT
import Derived.Test.YtpadpiibiocabaaDoorSrtToleranceS
import Derived.Test.YtpadpiibiocabaaDoorGIn
namespace Go.Proofs.YtpadpiibiocabaaDoor.draw
open Go.ChangeShapes Go.WideShapes Go.ChangeAt Go.RowKit ty lab dedup taint need
set_option linter.unusedVariables false

theorem tinyL_wfTolerance {l : List Tolerance} (h : ∀ x ∈ l, TinyO 5 x) : ∀ x ∈ l, x.Wf := fun x hx => (h x hx).wf (by decide)
theorem tinyL_sumTolerance : ∀ {l : List Tolerance}, (∀ x ∈ l, TinyO 5 x) → wsum Tolerance.wt l ≤ 10 * l.length
  | [], _ => by simp [wsum]
  | x :: l, h => by
    have h1 := tinyL_sumTolerance (l := l) fun y hy => h y (List.mem_cons_of_mem _ hy)
    have h2 := h x List.mem_cons_self
    have h3 := h2.key
    have h4 := h2.value
    have e : wsum Tolerance.wt (x :: l) = x.wt + wsum Tolerance.wt l := by simp [wsum]
    have h5 : x.wt ≤ 10 := by unfold Tolerance.wt; omega
    rw [e, List.length_cons]
    omega
theorem tinyL_snocTolerance {l : List Tolerance} {x : Tolerance} (h : ∀ x ∈ l, TinyO 5 x) (hx : TinyO 5 x) : ∀ y ∈ l ++ [x], TinyO 5 y := fun y hy => by
  rcases List.mem_append.1 hy with hy | hy
  · exact h y hy
  · rw [List.mem_singleton] at hy; subst hy; exact hx
set_option maxRecDepth 1000000 in
set_option maxHeartbeats 16000000 in
theorem Tolerances_any (c : Nat) (A : Option Addr) (len cap : Nat) (z : Nat → Int) (w : World) (hc : Cur w c A len cap z) :
    Calls Tryd.prog 46 #[.pointer (some ⟨c, 0, none⟩)] w (GotF 4 Tolerance.row (fun l => l.length ≤ 4 ∧ ∀ x ∈ l, TinyO 5 x) c A len cap z w) := by
  obtain ⟨i0, hi, hz0, hz1, hz2⟩ := info_parts TrydinfITolerance
  have hclt := hc.lt
  have hown0 : (w.alloc (.cells #[] 30)).ownsRow w.heap.size 30 4 (.slice (some ⟨w.heap.size, 0, none⟩) 0 0) 0 ([].flatMap Tolerance.cells) := World.ownsRow_lit w #[] 0 (Nat.le_refl _) (by simp [maxLen]) rfl
  obtain ⟨F0, ho0, hn0, _⟩ := own_Tolerance (l := []) hown0 (by intro x hx; cases hx)
  have Ho0 := Lib.hid ho0
  have Hn0 := Lib.hid hn0
  have Hc0 := Lib.hid (cur_alloc hc (.cells #[] 30))
  have Hg0 := Lib.hid (grown_alloc w (.cells #[] 30) (some c))
  clear hc hown0 ho0 hn0
  go_enter Tryd.func46, Tryd.ntmps46
  go_wp2_with fail
  go_loopw [3, 4] (fun vo i wr => ∃ (j : Nat) (l : List Tolerance) (f : Nat) (F : List Nat), j ≤ 3 ∧ i = .int .i64 j ∧ l.length ≤ 4 ∧ Hid (∀ x ∈ l, TinyO 5 x) ∧ Own wr w.heap.size (f + 1) vo (.sl 4 l.length (l.flatMap Tolerance.row)) F ∧ Hid F.Nodup ∧ Cur wr c A len cap z ∧ w.grownBy wr (some c)) (fun _ i _ => 3 - (intOf i).toNat)
  case atStart => exact ⟨0, [], 1, F0, by omega, rfl, by simp, (by intro x hx; cases hx), Ho0.out, Hn0.out, Hc0.out, Hg0.out⟩
  case round =>
    clear Ho0 Hn0 Hc0 Hg0
    obtain ⟨j, l, f, F, hj, rfl, hl6, htiny, ho, hnd, hcur, hgr⟩ := hrel
    have HB := Lib.hid (below_any c A len cap z 3 wr hcur (by decide) (by decide))
    obtain ⟨Ao, co, rfl, hco1, hco2, _⟩ := els_of Tolerance.row_length ho.lies
    unfold maxLen at hco2
    have Ho := Lib.hid ho
    have Hgr := Lib.hid hgr
    clear ho hgr hcur
    go_wp2_with fail
    refine HB.out.mono ?_
    rintro e w1 ⟨x, hx, rfl, hc1, hg1⟩
    have ho1 := own_curF Ho.out hclt hg1
    have Ho1 := Lib.hid ho1
    have Hgr1 := Lib.hid (grown_trans Hgr.out hg1)
    have Hc1 := Lib.hid hc1
    have hclt1 := hc1.lt
    obtain ⟨A', c', hA', _, _, f', hf', hels⟩ := els_of Tolerance.row_length ho1.lies
    injection hA' with a1 a2 a3
    subst a1 a3
    obtain ⟨hrd, _⟩ := rdk_Tolerance hels
    have hrd2 := hrd.below ((Below.refl w1.heap.size w1).alloc (Nat.le_refl _) (.cells #[] 30))
    have Hrd2 := Lib.hid hrd2
    have Hlit := Lib.hid (show (w1.alloc (.cells #[] 30)).ownsRow w1.heap.size 30 4 (.slice (some ⟨w1.heap.size, 0, none⟩) 0 0) 0 [] from World.ownsRow_lit w1 #[] 0 (Nat.le_refl _) (by simp [maxLen]) rfl)
    clear hg1 hc1 ho1 hels hrd hrd2 hf' Ho Hgr HB
    by_cases hlt : (j : Int) < x
    · have hj3 : j + 1 ≤ 3 := by omega
      go_wp2_with (first | (at_builtin; refine wpList_append_rdk rfl (.tmp 15) (.tmp 16) 24 rfl w1.heap.size 30 i0 _ 4 48 Tryd.underlying24 hi hz0 hz1 hz2 rfl (by decide) _ 0 [] rfl Hlit.out Ao l.length co (l.flatMap Tolerance.cells) rfl Hrd2.out (flt.ones_flat Tolerance.cells_one l) (by unfold maxLen; omega) (by omega) (by simp) ?_) | fail)
      intro v3 w3 hown3 hg3 hat3
      try simp only [Nat.zero_add, List.nil_append] at hown3
      obtain ⟨A3, c3, rfl⟩ := own_is_slice hown3
      have hb3 := Below.grown ((Below.refl w1.heap.size w1).alloc (Nat.le_refl _) (.cells #[] 30)) hg3 (by simp) (fun b hb => by simp [Value.ownBlock] at hb; omega)
      have Hb3 := Lib.hid hb3
      have Hown3 := Lib.hid hown3
      have HK := Lib.hid (tol_any c A len cap z w3 (Hc1.out.below (hb3.mono (show c + 1 ≤ w1.heap.size from hclt1)) (Nat.lt_succ_self c)))
      clear hown3 hg3 hat3 hb3 Hlit Hrd2
      go_wp2_with fail
      refine HK.out.mono ?_
      rintro e w5 ⟨xl, hxt, he, hc5, hg5⟩
      obtain rfl : e = .returned (.agg #[.string xl.key, .bool xl.equal, .string xl.value, .int .i64 xl.effect]) := he
      have Hxt := Lib.hid hxt
      have Hown5 := Lib.hid (row_curF Hown3.out hclt1 hg5)
      have Hg5 := Lib.hid (grown_trans (grown_of_below Hb3.out (some c)) hg5)
      have Hc5 := Lib.hid hc5
      have hs5 : w1.heap.size ≤ w5.heap.size := Hg5.out.size
      clear hc5 hg5 Hown3 Hb3 HK hxt
      go_wp2_with (first | (at_builtin; refine wpList_append_rdk rfl (.tmp 17) (.tmp 20) 24 rfl w1.heap.size 30 i0 _ 4 48 Tryd.underlying24 hi hz0 hz1 hz2 rfl (by decide) _ l.length _ rfl (own_below' Hown5.out ((Below.refl _ _).alloc (Nat.le_refl _) _)) (some ⟨w5.heap.size, 0, none⟩) 1 1 [.string xl.key, .bool xl.equal, .string xl.value, .int .i64 xl.effect] rfl (rdk_lay w5 30 [.string xl.key, .bool xl.equal, .string xl.value, .int .i64 xl.effect] rfl) (Tolerance.cells_one xl) (by unfold maxLen; omega) (by omega) (by simp; omega) ?_) | fail)
      intro v7 w7 hown7 hg7 hat7
      have hown8 : w7.ownsRow w1.heap.size 30 4 v7 (l ++ [xl]).length ((l ++ [xl]).flatMap Tolerance.cells) := by rw [List.flatMap_append, List.length_append, List.flatMap_cons, List.flatMap_nil, List.append_nil]; exact hown7
      have hb7 : Below w1.heap.size w5 w7 := Below.grown ((Below.refl w1.heap.size w5).alloc hs5 _) hg7 (by simp; omega) (fun b hb => (Hown5.out.lt b hb).1)
      have Hg7 := Lib.hid (draw.grown_below Hg5.out (hb7.mono (Nat.le_refl _)))
      have Hc7 := Lib.hid (Hc5.out.below (hb7.mono (show c + 1 ≤ w1.heap.size from hclt1)) (Nat.lt_succ_self c))
      have htl : ∀ y ∈ l ++ [xl], TinyO 5 y := tinyL_snocTolerance htiny.out Hxt.out
      obtain ⟨A7, c7, rfl⟩ := own_is_slice hown8
      obtain ⟨F7, ho7, hn7, _⟩ := own_Tolerance hown8 (tinyL_wfTolerance htl)
      have HS := Lib.hid (spec_sortTolerance (l ++ [xl]) _ _ w7 ho7.lies (Nat.le_trans (tinyL_sumTolerance htl) (by simp; omega)) (by simp; omega))
      have Hgood : Hid ((sortL TolsP befT (l ++ [xl])).2 = true → (sortL TolsP befT (l ++ [xl])).1.length ≤ 4 ∧ ∀ y ∈ (sortL TolsP befT (l ++ [xl])).1, TinyO 5 y) := fun h => by
        rcases sortL_cases (lt := befT) TolsP (l ++ [xl]) with e | ⟨e, hP⟩
        · rw [e] at h; cases h
        · rw [e]
          exact ⟨hP.1, fun y hy => htl y (dsort_sub _ _ y hy)⟩
      have hs7 : w1.heap.size ≤ w7.heap.size := Hg7.out.size
      rw [List.length_append, List.length_singleton] at HS
      clear hown7 hown8 hg7 hat7 hb7 ho7 hn7 htl Hown5 Hg5 Hc5
      generalize sortL TolsP befT (l ++ [xl]) = r at HS Hgood
      obtain ⟨r1, r2⟩ := r
      go_wp2_with fail
      refine HS.out.mono ?_
      rintro e w8 ⟨v8, f8, F8, rfl, ho8, hn8, hb8⟩
      have Ho8 := Lib.hid (ho8.lower (show w.heap.size ≤ w7.heap.size from Nat.le_trans Hgr1.out.size hs7))
      have Hn8 := Lib.hid hn8
      have Hg8 := Lib.hid (draw.grown_below Hg7.out (hb8.mono hs7))
      have Hc8 := Lib.hid (Hc7.out.below (hb8.mono (show c + 1 ≤ w7.heap.size by omega)) (Nat.lt_succ_self c))
      have Ho18 := Lib.hid (own_curF Ho1.out hclt Hg8.out)
      have Hgr8 := Lib.hid (grown_trans Hgr1.out Hg8.out)
      obtain ⟨A8, c8, rfl, _, _, _⟩ := els_of Tolerance.row_length ho8.lies
      clear ho8 hn8 hb8 HS Hg7 Hc7
      cases r2 with
      | true =>
        have hgd := Hgood.out rfl
        have Htg := Lib.hid hgd.2
        have hr6 : r1.length ≤ 4 := hgd.1
        clear hgd Hgood
        go_wp2_with fail
        go_roundw
        case rel => exact ⟨j + 1, r1, f8, F8, hj3, by go_num, hr6, Htg.out, Ho8.out, Hn8.out, Hc8.out, Hgr8.out⟩
        case measure => simp [intOf]; omega
      | false =>
        clear Hgood
        go_wp2_with fail
        go_roundw
        case rel => exact ⟨j + 1, l, f, F, hj3, by go_num, hl6, htiny.out, Ho18.out, hnd.out, Hc8.out, Hgr8.out⟩
        case measure => simp [intOf]; omega
    · go_wp2_with fail
      go_ret
      exact ⟨l, _, f, F, ⟨hl6, htiny.out⟩, rfl, Ho1.out, hnd.out, Hc1.out, Hgr1.out⟩
end Go.Proofs.YtpadpiibiocabaaDoor.draw
