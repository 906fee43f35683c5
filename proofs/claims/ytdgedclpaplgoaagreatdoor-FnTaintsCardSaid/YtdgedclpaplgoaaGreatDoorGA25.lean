/- Merged: DrawTaints DrawAnyTaints DrawSortTaints DrawTolerances DrawAnyTolerances DrawSortTolerances. -/
import Derived.Test.YtdgedclpaplgoaaGreatDoorGA20
import Derived.Test.YtdgedclpaplgoaaGreatDoorSrtTaintS
import Derived.Test.YtdgedclpaplgoaaGreatDoorGA21
import Derived.Test.YtdgedclpaplgoaaGreatDoorGA22
import Derived.Test.YtdgedclpaplgoaaGreatDoorSrtToleranceS
namespace Go.Proofs.YtdgedclpaplgoaaGreatDoor.draw
open Go.ChangeShapes Go.WideShapes Go.ChangeAt Go.RowKit ty lab dedup taint need
set_option linter.unusedVariables false

theorem tinyL_wfTaint {l : List Taint} (h : ∀ x ∈ l, TinyT 5 x) : ∀ x ∈ l, x.Wf := fun x hx => (h x hx).wf (by decide)
theorem tinyL_sumTaint : ∀ {l : List Taint}, (∀ x ∈ l, TinyT 5 x) → wsum Taint.wt l ≤ 10 * l.length
  | [], _ => by simp [wsum]
  | x :: l, h => by
    have h1 := tinyL_sumTaint (l := l) fun y hy => h y (List.mem_cons_of_mem _ hy)
    have h2 := h x List.mem_cons_self
    have h3 := h2.key
    have h4 := h2.value
    have e : wsum Taint.wt (x :: l) = x.wt + wsum Taint.wt l := by simp [wsum]
    have h5 : x.wt ≤ 10 := by unfold Taint.wt; omega
    rw [e, List.length_cons]
    omega
theorem tinyL_snocTaint {l : List Taint} {x : Taint} (h : ∀ x ∈ l, TinyT 5 x) (hx : TinyT 5 x) : ∀ y ∈ l ++ [x], TinyT 5 y := fun y hy => by
  rcases List.mem_append.1 hy with hy | hy
  · exact h y hy
  · rw [List.mem_singleton] at hy; subst hy; exact hx
set_option maxRecDepth 1000000 in
set_option maxHeartbeats 16000000 in
theorem Taints_any (c : Nat) (A : Option Addr) (len cap : Nat) (z : Nat → Int) (w : World) (hc : Cur w c A len cap z) :
    Calls Tryz.prog 93 #[.pointer (some ⟨c, 0, none⟩)] w (GotF 3 Taint.row (fun l => l.length ≤ 4 ∧ ∀ x ∈ l, TinyT 5 x) c A len cap z w) := by
  obtain ⟨i0, hi, hz0, hz1, hz2⟩ := info_parts TryzinfITaint
  have hclt := hc.lt
  have hown0 : (w.alloc (.cells #[] 44)).ownsRow w.heap.size 44 3 (.slice (some ⟨w.heap.size, 0, none⟩) 0 0) 0 ([].flatMap Taint.cells) := World.ownsRow_lit w #[] 0 (Nat.le_refl _) (by simp [maxLen]) rfl
  obtain ⟨F0, ho0, hn0, _⟩ := own_Taint (l := []) hown0 (by intro x hx; cases hx)
  have Ho0 := Lib.hid ho0
  have Hn0 := Lib.hid hn0
  have Hc0 := Lib.hid (cur_alloc hc (.cells #[] 44))
  have Hg0 := Lib.hid (grown_alloc w (.cells #[] 44) (some c))
  clear hc hown0 ho0 hn0
  go_enter Tryz.func93, Tryz.ntmps93
  go_wp2_with fail
  go_loopw [3, 4] (fun vo i wr => ∃ (j : Nat) (l : List Taint) (f : Nat) (F : List Nat), j ≤ 3 ∧ i = .int .i64 j ∧ l.length ≤ 4 ∧ Hid (∀ x ∈ l, TinyT 5 x) ∧ Own wr w.heap.size (f + 1) vo (.sl 3 l.length (l.flatMap Taint.row)) F ∧ Hid F.Nodup ∧ Cur wr c A len cap z ∧ w.grownBy wr (some c)) (fun _ i _ => 3 - (intOf i).toNat)
  case atStart => exact ⟨0, [], 1, F0, by omega, rfl, by simp, (by intro x hx; cases hx), Ho0.out, Hn0.out, Hc0.out, Hg0.out⟩
  case round =>
    clear Ho0 Hn0 Hc0 Hg0
    obtain ⟨j, l, f, F, hj, rfl, hl6, htiny, ho, hnd, hcur, hgr⟩ := hrel
    have HB := Lib.hid (below_any c A len cap z 3 wr hcur (by decide) (by decide))
    obtain ⟨Ao, co, rfl, hco1, hco2, _⟩ := els_of Taint.row_length ho.lies
    unfold maxLen at hco2
    have Ho := Lib.hid ho
    have Hgr := Lib.hid hgr
    clear ho hgr hcur
    go_wp2_with fail
    refine HB.out.mono ?_
    rintro e w1 ⟨x, hx, rfl, hc1, hg1⟩
    have ho1 := own_curF Ho.out hclt hg1
    have Ho1 := Lib.hid ho1
    have Hgr1 := Lib.hid (grown_trans Hgr.out hg1)
    have Hc1 := Lib.hid hc1
    have hclt1 := hc1.lt
    obtain ⟨A', c', hA', _, _, f', hf', hels⟩ := els_of Taint.row_length ho1.lies
    injection hA' with a1 a2 a3
    subst a1 a3
    obtain ⟨hrd, _⟩ := rdk_Taint hels
    have hrd2 := hrd.below ((Below.refl w1.heap.size w1).alloc (Nat.le_refl _) (.cells #[] 44))
    have Hrd2 := Lib.hid hrd2
    have Hlit := Lib.hid (show (w1.alloc (.cells #[] 44)).ownsRow w1.heap.size 44 3 (.slice (some ⟨w1.heap.size, 0, none⟩) 0 0) 0 [] from World.ownsRow_lit w1 #[] 0 (Nat.le_refl _) (by simp [maxLen]) rfl)
    clear hg1 hc1 ho1 hels hrd hrd2 hf' Ho Hgr HB
    by_cases hlt : (j : Int) < x
    · have hj3 : j + 1 ≤ 3 := by omega
      go_wp2_with (first | (at_builtin; refine wpList_append_rdk rfl (.tmp 15) (.tmp 16) 35 rfl w1.heap.size 44 i0 _ 3 40 Tryz.underlying35 hi hz0 hz1 hz2 rfl (by decide) _ 0 [] rfl Hlit.out Ao l.length co (l.flatMap Taint.cells) rfl Hrd2.out (flt.ones_flat Taint.cells_one l) (by unfold maxLen; omega) (by omega) (by simp) ?_) | fail)
      intro v3 w3 hown3 hg3 hat3
      try simp only [Nat.zero_add, List.nil_append] at hown3
      obtain ⟨A3, c3, rfl⟩ := own_is_slice hown3
      have hb3 := Below.grown ((Below.refl w1.heap.size w1).alloc (Nat.le_refl _) (.cells #[] 44)) hg3 (by simp) (fun b hb => by simp [Value.ownBlock] at hb; omega)
      have Hb3 := Lib.hid hb3
      have Hown3 := Lib.hid hown3
      have HK := Lib.hid (taint_any c A len cap z w3 (Hc1.out.below (hb3.mono (show c + 1 ≤ w1.heap.size from hclt1)) (Nat.lt_succ_self c)))
      clear hown3 hg3 hat3 hb3 Hlit Hrd2
      go_wp2_with fail
      refine HK.out.mono ?_
      rintro e w5 ⟨xl, hxt, he, hc5, hg5⟩
      obtain rfl : e = .returned (.agg #[.string xl.key, .string xl.value, .int .i64 xl.effect]) := he
      have Hxt := Lib.hid hxt
      have Hown5 := Lib.hid (row_curF Hown3.out hclt1 hg5)
      have Hg5 := Lib.hid (grown_trans (grown_of_below Hb3.out (some c)) hg5)
      have Hc5 := Lib.hid hc5
      have hs5 : w1.heap.size ≤ w5.heap.size := Hg5.out.size
      clear hc5 hg5 Hown3 Hb3 HK hxt
      go_wp2_with (first | (at_builtin; refine wpList_append_rdk rfl (.tmp 17) (.tmp 20) 35 rfl w1.heap.size 44 i0 _ 3 40 Tryz.underlying35 hi hz0 hz1 hz2 rfl (by decide) _ l.length _ rfl (own_below' Hown5.out ((Below.refl _ _).alloc (Nat.le_refl _) _)) (some ⟨w5.heap.size, 0, none⟩) 1 1 [.string xl.key, .string xl.value, .int .i64 xl.effect] rfl (rdk_lay w5 44 [.string xl.key, .string xl.value, .int .i64 xl.effect] rfl) (Taint.cells_one xl) (by unfold maxLen; omega) (by omega) (by simp; omega) ?_) | fail)
      intro v7 w7 hown7 hg7 hat7
      have hown8 : w7.ownsRow w1.heap.size 44 3 v7 (l ++ [xl]).length ((l ++ [xl]).flatMap Taint.cells) := by rw [List.flatMap_append, List.length_append, List.flatMap_cons, List.flatMap_nil, List.append_nil]; exact hown7
      have hb7 : Below w1.heap.size w5 w7 := Below.grown ((Below.refl w1.heap.size w5).alloc hs5 _) hg7 (by simp; omega) (fun b hb => (Hown5.out.lt b hb).1)
      have Hg7 := Lib.hid (draw.grown_below Hg5.out (hb7.mono (Nat.le_refl _)))
      have Hc7 := Lib.hid (Hc5.out.below (hb7.mono (show c + 1 ≤ w1.heap.size from hclt1)) (Nat.lt_succ_self c))
      have htl : ∀ y ∈ l ++ [xl], TinyT 5 y := tinyL_snocTaint htiny.out Hxt.out
      obtain ⟨A7, c7, rfl⟩ := own_is_slice hown8
      obtain ⟨F7, ho7, hn7, _⟩ := own_Taint hown8 (tinyL_wfTaint htl)
      have HS := Lib.hid (spec_sortTaint (l ++ [xl]) _ _ w7 ho7.lies (Nat.le_trans (tinyL_sumTaint htl) (by simp; omega)) (by simp; omega))
      have Hgood : Hid ((sortL TaintsP lessT (l ++ [xl])).2 = true → (sortL TaintsP lessT (l ++ [xl])).1.length ≤ 4 ∧ ∀ y ∈ (sortL TaintsP lessT (l ++ [xl])).1, TinyT 5 y) := fun h => by
        rcases sortL_cases (lt := lessT) TaintsP (l ++ [xl]) with e | ⟨e, hP⟩
        · rw [e] at h; cases h
        · rw [e]
          exact ⟨hP.1, fun y hy => htl y (dsort_sub _ _ y hy)⟩
      have hs7 : w1.heap.size ≤ w7.heap.size := Hg7.out.size
      rw [List.length_append, List.length_singleton] at HS
      clear hown7 hown8 hg7 hat7 hb7 ho7 hn7 htl Hown5 Hg5 Hc5
      generalize sortL TaintsP lessT (l ++ [xl]) = r at HS Hgood
      obtain ⟨r1, r2⟩ := r
      go_wp2_with fail
      refine HS.out.mono ?_
      rintro e w8 ⟨v8, f8, F8, rfl, ho8, hn8, hb8⟩
      have Ho8 := Lib.hid (ho8.lower (show w.heap.size ≤ w7.heap.size from Nat.le_trans Hgr1.out.size hs7))
      have Hn8 := Lib.hid hn8
      have Hg8 := Lib.hid (draw.grown_below Hg7.out (hb8.mono hs7))
      have Hc8 := Lib.hid (Hc7.out.below (hb8.mono (show c + 1 ≤ w7.heap.size by omega)) (Nat.lt_succ_self c))
      have Ho18 := Lib.hid (own_curF Ho1.out hclt Hg8.out)
      have Hgr8 := Lib.hid (grown_trans Hgr1.out Hg8.out)
      obtain ⟨A8, c8, rfl, _, _, _⟩ := els_of Taint.row_length ho8.lies
      clear ho8 hn8 hb8 HS Hg7 Hc7
      cases r2 with
      | true =>
        have hgd := Hgood.out rfl
        have Htg := Lib.hid hgd.2
        have hr6 : r1.length ≤ 4 := hgd.1
        clear hgd Hgood
        go_wp2_with fail
        go_roundw
        case rel => exact ⟨j + 1, r1, f8, F8, hj3, by go_num, hr6, Htg.out, Ho8.out, Hn8.out, Hc8.out, Hgr8.out⟩
        case measure => simp [intOf]; omega
      | false =>
        clear Hgood
        go_wp2_with fail
        go_roundw
        case rel => exact ⟨j + 1, l, f, F, hj3, by go_num, hl6, htiny.out, Ho18.out, hnd.out, Hc8.out, Hgr8.out⟩
        case measure => simp [intOf]; omega
    · go_wp2_with fail
      go_ret
      exact ⟨l, _, f, F, ⟨hl6, htiny.out⟩, rfl, Ho1.out, hnd.out, Hc1.out, Hgr1.out⟩
end Go.Proofs.YtdgedclpaplgoaaGreatDoor.draw
namespace Go.Proofs.YtdgedclpaplgoaaGreatDoor.draw
open Go.ChangeShapes Go.WideShapes Go.ChangeAt Go.RowKit ty lab dedup taint need
set_option linter.unusedVariables false

theorem fl_Taint (w : World) (f : Nat) (x : Taint) (j : Nat) (d : C) (u : Value) (h : x.row[j]? = some d) (hl : Lies w f u d) : x.cells[j]? = some u := by
  match j, h with
  | 0, h =>
    simp [Taint.row] at h
    subst h
    have e := hl.str.1
    subst e
    rfl
  | 1, h =>
    simp [Taint.row] at h
    subst h
    have e := hl.str.1
    subst e
    rfl
  | 2, h =>
    simp [Taint.row] at h
    subst h
    have e := hl.int.1
    subst e
    rfl
  | j + 3, h => simp [Taint.row] at h
/-- A slice's length. -/
def lenOfTaint : Value → Nat
  | .slice _ n _ => n
  | _ => 0
set_option maxRecDepth 1000000 in
set_option maxHeartbeats 16000000 in
theorem anyTaints_any (c : Nat) (A : Option Addr) (len cap : Nat) (z : Nat → Int) (w : World) (hc : Cur w c A len cap z) :
    Calls Tryz.prog 50 #[.pointer (some ⟨c, 0, none⟩)] w (GotF 3 Taint.row (fun l => l.length ≤ 41 ∧ ∀ x ∈ l, TinyT 5 x) c A len cap z w) := by
  obtain ⟨i0, hi, hz0, hz1, hz2⟩ := info_parts TryzinfITaint
  have hclt := hc.lt
  have HL := Lib.hid (Taints_any c A len cap z w hc)
  clear hc
  go_enter Tryz.func50, Tryz.ntmps50
  go_wp2_with fail
  refine HL.out.mono ?_
  rintro e w1 ⟨l, v, f, F, ⟨hl4, htiny⟩, rfl, ho, hnd, hc1, hg1⟩
  obtain ⟨e0, hst⟩ := StF.of_got Taint.row_length Taint.cells_len fl_Taint 44 ho hc1 hg1
  have S1 := Lib.hid hst
  have HT := Lib.hid htiny
  have Hl4 := Lib.hid hl4
  clear HL ho hnd hc1 hg1 hst htiny hl4
  go_wp2_with fail
  go_loopw [3, 4] (fun vo i wr => ∃ (j : Nat) (m : List Taint) (q : TypeId), j ≤ 4 ∧ i = .int .i64 j ∧ m.length ≤ 4 + j ∧ Hid (∀ x ∈ m, TinyT 5 x) ∧ StF 3 Taint.cells w c A len cap z q vo m wr) (fun _ i _ => 4 - (intOf i).toNat)
  case atStart => exact ⟨0, l, e0, by omega, rfl, by have := Hl4.out; omega, HT.out, S1.out⟩
  case round =>
    clear S1 HT Hl4
    obtain ⟨j, m, q, hj, rfl, hml, htm, hst⟩ := hrel
    obtain ⟨Am, cm, rfl⟩ := own_is_slice hst.row
    have S3 := Lib.hid hst
    have HB := Lib.hid (below_any c A len cap z 4 wr hst.cur (by decide) (by decide))
    clear hst
    go_wp2_with fail
    refine HB.out.mono ?_
    rintro e w4 ⟨x, hx, rfl, hc4, hg4⟩
    have S4 := Lib.hid (S3.out.turn hclt hc4 hg4)
    clear hg4 HB S3
    by_cases hlt : (j : Int) < x
    · have hj5 : j ≤ 3 := by omega
      have HK := Lib.hid (anyTaint_any c A len cap z w4 hc4)
      clear hc4
      go_wp2_with fail
      refine HK.out.mono ?_
      rintro e w5 ⟨xl, hxt, he, hc5, hg5⟩
      obtain rfl : e = .returned (.agg #[.string xl.key, .string xl.value, .int .i64 xl.effect]) := he
      have S5 := Lib.hid (S4.out.turn hclt hc5 hg5)
      have hs5 := S5.out.grown.size
      have Hxt := Lib.hid hxt
      clear HK S4 hc5 hg5 hxt
      go_wp2_with (first | (at_builtin; refine wpList_append_anyE rfl (.tmp 13) (.tmp 16) 35 rfl w.heap.size 44 q i0 _ 3 40 Tryz.underlying35 hi hz0 hz1 hz2 rfl (by decide) _ m.length _ rfl (S5.out.alloc hclt _).row w5.heap.size 1 1 [.string xl.key, .string xl.value, .int .i64 xl.effect] rfl (rdk_lay w5 44 [.string xl.key, .string xl.value, .int .i64 xl.effect] rfl) (by decide) (Taint.cells_one xl) (by unfold maxLen; omega) (by omega) (by simp; omega) ?_) | fail)
      intro v7 w7 e7 hown7 hg7 hat7
      have S7 := Lib.hid (S5.out.more (x := xl) hclt hown7 hg7)
      have HT7 := Lib.hid (tinyL_snocTaint htm.out Hxt.out)
      have hm7 : (m ++ [xl]).length ≤ 4 + (j + 1) := by simp; omega
      clear hown7 hg7 hat7 S5
      go_wp2_with fail
      go_roundw
      case rel => exact ⟨j + 1, m ++ [xl], e7, by omega, by go_num, hm7, HT7.out, S7.out⟩
      case measure => simp [intOf]; omega
    · have hm8 : m.length ≤ 8 := by omega
      have HO := Lib.hid (once_any c A len cap z 20 w4 hc4 (by decide) (by decide))
      clear hc4
      go_wp2_with fail
      refine HO.out.mono ?_
      rintro e w5 ⟨b, rfl, hc5, hg5⟩
      have S5 := Lib.hid (S4.out.turn hclt hc5 hg5)
      clear HO S4 hc5 hg5
      cases b with
      | false =>
        have HR := Lib.hid (S5.out.got (row := Taint.row) (Wf := Taint.Wf) (P := (fun l => l.length ≤ 41 ∧ ∀ x ∈ l, TinyT 5 x)) Taint.row_length (fun x h => Taint.owned h) ⟨by omega, htm.out⟩ (tinyL_wfTaint htm.out))
        go_wp2_with fail
        go_ret
        exact HR.out
      | true =>
        go_wp2_with fail
        go_loopw [3] (fun vo wr => ∃ (m2 : List Taint) (q2 : TypeId), m2.length ≤ 41 ∧ lenOfTaint vo = m2.length ∧ Hid (∀ x ∈ m2, TinyT 5 x) ∧ StF 3 Taint.cells w c A len cap z q2 vo m2 wr) (fun vo _ => 41 - lenOfTaint vo)
        case atStart => exact ⟨m, q, by omega, rfl, htm.out, S5.out⟩
        case round =>
          clear S5 htm hm8 hml
          obtain ⟨m2, q, hm2, hlo, htm, hst⟩ := hrel
          obtain ⟨Am2, cm2, rfl⟩ := own_is_slice hst.row
          have S6 := Lib.hid hst
          have HB := Lib.hid (below_any c A len cap z 2 wr hst.cur (by decide) (by decide))
          clear hst hlo
          go_wp2_with fail
          refine HB.out.mono ?_
          rintro e w7 ⟨x2, hx2, rfl, hc7, hg7⟩
          have S7 := Lib.hid (S6.out.turn hclt hc7 hg7)
          have hs7 := S7.out.grown.size
          have hwx : IntKind.i64.wrap (40 + x2) = 40 + x2 := IntWalk.i64_in _ (by omega)
          clear HB S6 hc7 hg7
          by_cases hlt2 : (m2.length : Int) < 40 + x2
          · go_wp2_with (first | (at_builtin; refine wpList_append_anyE rfl (.tmp 26) (.tmp 28) 35 rfl w.heap.size 44 q i0 _ 3 40 Tryz.underlying35 hi hz0 hz1 hz2 rfl (by decide) _ m2.length _ rfl (S7.out.alloc hclt _).row w7.heap.size 1 1 [.string ⟨#[97]⟩, .string ⟨#[]⟩, .int .i64 1] rfl (rdk_lay w7 44 [.string ⟨#[97]⟩, .string ⟨#[]⟩, .int .i64 1] rfl) (by decide) (by intro u hu; simp at hu; rcases hu with rfl | rfl | rfl <;> rfl) (by unfold maxLen; omega) (by omega) (by simp; omega) ?_) | fail)
            intro v9 w9 e9 hown9 hg9 hat9
            have S9 := Lib.hid (S7.out.more (x := (⟨⟨#[97]⟩, ⟨#[]⟩, 1⟩ : Taint)) hclt hown9 hg9)
            have HT9 := Lib.hid (tinyL_snocTaint (x := (⟨⟨#[97]⟩, ⟨#[]⟩, 1⟩ : Taint)) htm.out ⟨by decide, by decide, by decide, by decide⟩)
            have hm9 : (m2 ++ [(⟨⟨#[97]⟩, ⟨#[]⟩, 1⟩ : Taint)]).length ≤ 41 := by simp; omega
            obtain ⟨A9, c9, rfl⟩ := own_is_slice hown9
            clear hown9 hg9 hat9 S7
            go_wp2_with fail
            go_roundw
            case rel => exact ⟨m2 ++ [(⟨⟨#[97]⟩, ⟨#[]⟩, 1⟩ : Taint)], e9, hm9, by simp [lenOfTaint], HT9.out, S9.out⟩
            case measure => simp [lenOfTaint]; omega
          · have HR := Lib.hid (S7.out.got (row := Taint.row) (Wf := Taint.Wf) (P := (fun l => l.length ≤ 41 ∧ ∀ x ∈ l, TinyT 5 x)) Taint.row_length (fun x h => Taint.owned h) ⟨hm2, htm.out⟩ (tinyL_wfTaint htm.out))
            go_wp2_with fail
            go_ret
            exact HR.out
end Go.Proofs.YtdgedclpaplgoaaGreatDoor.draw
namespace Go.Proofs.YtdgedclpaplgoaaGreatDoor.draw
open Go.ChangeShapes Go.WideShapes Go.ChangeAt Go.RowKit ty lab dedup taint need
set_option linter.unusedVariables false

/-- A drawn list in memory of the call's own. -/
def DrawnTaint (w : World) (e : Ending) (w' : World) : Prop := ∃ (l : List Taint) (v : Value) (f : Nat) (F : List Nat), l.length ≤ 41 ∧ (∀ x ∈ l, TinyT 5 x) ∧ e = .returned v ∧ Own w' w.heap.size (f + 1) v (.sl 3 l.length (l.flatMap Taint.row)) F ∧ Below w.heap.size w w'
set_option maxRecDepth 1000000 in
theorem drawSortTaint (A : Option Addr) (len cap : Nat) (zs : List Int) (w : World) (hr : IsRow .u8 w A len cap zs) (hlen : len ≤ 1048576) :
    Calls Tryz.prog 15 #[.slice A len cap] w fun e w' => DrawnTaint w e w' := by
  have HN := Lib.hid (new_any A len cap zs w hr hlen)
  clear hr
  go_enter Tryz.func15, Tryz.ntmps15
  go_wp2_with fail
  refine HN.out.mono ?_
  clear HN
  rintro e w1 ⟨c, rfl, hcw, hc, hb1⟩
  generalize (fun j => zs.getD j 0) = z at hc
  have HA := Lib.hid (anyTaints_any c A len cap z w1 hc)
  clear hc
  go_wp2_with fail
  refine HA.out.mono ?_
  clear HA
  rintro e w2 ⟨l, v, f, F, ⟨hl, ht⟩, rfl, ho, hnd, hc2, hg2⟩
  have HR := Lib.hid (show DrawnTaint w (.returned v) w2 from ⟨l, v, f, F, hl, ht, rfl, ho.lower hb1.size, hb1.grown hg2 hb1.size (fun b hb => by injection hb with hb; omega)⟩)
  clear ho hnd hc2 hg2 hl ht
  go_wp2_with fail
  go_ret
  exact HR.out
end Go.Proofs.YtdgedclpaplgoaaGreatDoor.draw
namespace Go.Proofs.YtdgedclpaplgoaaGreatDoor.draw
open Go.ChangeShapes Go.WideShapes Go.ChangeAt Go.RowKit ty lab dedup taint need
set_option linter.unusedVariables false

theorem tinyL_wfTolerance {l : List Tolerance} (h : ∀ x ∈ l, TinyO 5 x) : ∀ x ∈ l, x.Wf := fun x hx => (h x hx).wf (by decide)
theorem tinyL_sumTolerance : ∀ {l : List Tolerance}, (∀ x ∈ l, TinyO 5 x) → wsum Tolerance.wt l ≤ 10 * l.length
  | [], _ => by simp [wsum]
  | x :: l, h => by
    have h1 := tinyL_sumTolerance (l := l) fun y hy => h y (List.mem_cons_of_mem _ hy)
    have h2 := h x List.mem_cons_self
    have h3 := h2.key
    have h4 := h2.value
    have e : wsum Tolerance.wt (x :: l) = x.wt + wsum Tolerance.wt l := by simp [wsum]
    have h5 : x.wt ≤ 10 := by unfold Tolerance.wt; omega
    rw [e, List.length_cons]
    omega
theorem tinyL_snocTolerance {l : List Tolerance} {x : Tolerance} (h : ∀ x ∈ l, TinyO 5 x) (hx : TinyO 5 x) : ∀ y ∈ l ++ [x], TinyO 5 y := fun y hy => by
  rcases List.mem_append.1 hy with hy | hy
  · exact h y hy
  · rw [List.mem_singleton] at hy; subst hy; exact hx
set_option maxRecDepth 1000000 in
set_option maxHeartbeats 16000000 in
theorem Tolerances_any (c : Nat) (A : Option Addr) (len cap : Nat) (z : Nat → Int) (w : World) (hc : Cur w c A len cap z) :
    Calls Tryz.prog 95 #[.pointer (some ⟨c, 0, none⟩)] w (GotF 4 Tolerance.row (fun l => l.length ≤ 4 ∧ ∀ x ∈ l, TinyO 5 x) c A len cap z w) := by
  obtain ⟨i0, hi, hz0, hz1, hz2⟩ := info_parts TryzinfITolerance
  have hclt := hc.lt
  have hown0 : (w.alloc (.cells #[] 46)).ownsRow w.heap.size 46 4 (.slice (some ⟨w.heap.size, 0, none⟩) 0 0) 0 ([].flatMap Tolerance.cells) := World.ownsRow_lit w #[] 0 (Nat.le_refl _) (by simp [maxLen]) rfl
  obtain ⟨F0, ho0, hn0, _⟩ := own_Tolerance (l := []) hown0 (by intro x hx; cases hx)
  have Ho0 := Lib.hid ho0
  have Hn0 := Lib.hid hn0
  have Hc0 := Lib.hid (cur_alloc hc (.cells #[] 46))
  have Hg0 := Lib.hid (grown_alloc w (.cells #[] 46) (some c))
  clear hc hown0 ho0 hn0
  go_enter Tryz.func95, Tryz.ntmps95
  go_wp2_with fail
  go_loopw [3, 4] (fun vo i wr => ∃ (j : Nat) (l : List Tolerance) (f : Nat) (F : List Nat), j ≤ 3 ∧ i = .int .i64 j ∧ l.length ≤ 4 ∧ Hid (∀ x ∈ l, TinyO 5 x) ∧ Own wr w.heap.size (f + 1) vo (.sl 4 l.length (l.flatMap Tolerance.row)) F ∧ Hid F.Nodup ∧ Cur wr c A len cap z ∧ w.grownBy wr (some c)) (fun _ i _ => 3 - (intOf i).toNat)
  case atStart => exact ⟨0, [], 1, F0, by omega, rfl, by simp, (by intro x hx; cases hx), Ho0.out, Hn0.out, Hc0.out, Hg0.out⟩
  case round =>
    clear Ho0 Hn0 Hc0 Hg0
    obtain ⟨j, l, f, F, hj, rfl, hl6, htiny, ho, hnd, hcur, hgr⟩ := hrel
    have HB := Lib.hid (below_any c A len cap z 3 wr hcur (by decide) (by decide))
    obtain ⟨Ao, co, rfl, hco1, hco2, _⟩ := els_of Tolerance.row_length ho.lies
    unfold maxLen at hco2
    have Ho := Lib.hid ho
    have Hgr := Lib.hid hgr
    clear ho hgr hcur
    go_wp2_with fail
    refine HB.out.mono ?_
    rintro e w1 ⟨x, hx, rfl, hc1, hg1⟩
    have ho1 := own_curF Ho.out hclt hg1
    have Ho1 := Lib.hid ho1
    have Hgr1 := Lib.hid (grown_trans Hgr.out hg1)
    have Hc1 := Lib.hid hc1
    have hclt1 := hc1.lt
    obtain ⟨A', c', hA', _, _, f', hf', hels⟩ := els_of Tolerance.row_length ho1.lies
    injection hA' with a1 a2 a3
    subst a1 a3
    obtain ⟨hrd, _⟩ := rdk_Tolerance hels
    have hrd2 := hrd.below ((Below.refl w1.heap.size w1).alloc (Nat.le_refl _) (.cells #[] 46))
    have Hrd2 := Lib.hid hrd2
    have Hlit := Lib.hid (show (w1.alloc (.cells #[] 46)).ownsRow w1.heap.size 46 4 (.slice (some ⟨w1.heap.size, 0, none⟩) 0 0) 0 [] from World.ownsRow_lit w1 #[] 0 (Nat.le_refl _) (by simp [maxLen]) rfl)
    clear hg1 hc1 ho1 hels hrd hrd2 hf' Ho Hgr HB
    by_cases hlt : (j : Int) < x
    · have hj3 : j + 1 ≤ 3 := by omega
      go_wp2_with (first | (at_builtin; refine wpList_append_rdk rfl (.tmp 15) (.tmp 16) 37 rfl w1.heap.size 46 i0 _ 4 48 Tryz.underlying37 hi hz0 hz1 hz2 rfl (by decide) _ 0 [] rfl Hlit.out Ao l.length co (l.flatMap Tolerance.cells) rfl Hrd2.out (flt.ones_flat Tolerance.cells_one l) (by unfold maxLen; omega) (by omega) (by simp) ?_) | fail)
      intro v3 w3 hown3 hg3 hat3
      try simp only [Nat.zero_add, List.nil_append] at hown3
      obtain ⟨A3, c3, rfl⟩ := own_is_slice hown3
      have hb3 := Below.grown ((Below.refl w1.heap.size w1).alloc (Nat.le_refl _) (.cells #[] 46)) hg3 (by simp) (fun b hb => by simp [Value.ownBlock] at hb; omega)
      have Hb3 := Lib.hid hb3
      have Hown3 := Lib.hid hown3
      have HK := Lib.hid (tol_any c A len cap z w3 (Hc1.out.below (hb3.mono (show c + 1 ≤ w1.heap.size from hclt1)) (Nat.lt_succ_self c)))
      clear hown3 hg3 hat3 hb3 Hlit Hrd2
      go_wp2_with fail
      refine HK.out.mono ?_
      rintro e w5 ⟨xl, hxt, he, hc5, hg5⟩
      obtain rfl : e = .returned (.agg #[.string xl.key, .bool xl.equal, .string xl.value, .int .i64 xl.effect]) := he
      have Hxt := Lib.hid hxt
      have Hown5 := Lib.hid (row_curF Hown3.out hclt1 hg5)
      have Hg5 := Lib.hid (grown_trans (grown_of_below Hb3.out (some c)) hg5)
      have Hc5 := Lib.hid hc5
      have hs5 : w1.heap.size ≤ w5.heap.size := Hg5.out.size
      clear hc5 hg5 Hown3 Hb3 HK hxt
      go_wp2_with (first | (at_builtin; refine wpList_append_rdk rfl (.tmp 17) (.tmp 20) 37 rfl w1.heap.size 46 i0 _ 4 48 Tryz.underlying37 hi hz0 hz1 hz2 rfl (by decide) _ l.length _ rfl (own_below' Hown5.out ((Below.refl _ _).alloc (Nat.le_refl _) _)) (some ⟨w5.heap.size, 0, none⟩) 1 1 [.string xl.key, .bool xl.equal, .string xl.value, .int .i64 xl.effect] rfl (rdk_lay w5 46 [.string xl.key, .bool xl.equal, .string xl.value, .int .i64 xl.effect] rfl) (Tolerance.cells_one xl) (by unfold maxLen; omega) (by omega) (by simp; omega) ?_) | fail)
      intro v7 w7 hown7 hg7 hat7
      have hown8 : w7.ownsRow w1.heap.size 46 4 v7 (l ++ [xl]).length ((l ++ [xl]).flatMap Tolerance.cells) := by rw [List.flatMap_append, List.length_append, List.flatMap_cons, List.flatMap_nil, List.append_nil]; exact hown7
      have hb7 : Below w1.heap.size w5 w7 := Below.grown ((Below.refl w1.heap.size w5).alloc hs5 _) hg7 (by simp; omega) (fun b hb => (Hown5.out.lt b hb).1)
      have Hg7 := Lib.hid (draw.grown_below Hg5.out (hb7.mono (Nat.le_refl _)))
      have Hc7 := Lib.hid (Hc5.out.below (hb7.mono (show c + 1 ≤ w1.heap.size from hclt1)) (Nat.lt_succ_self c))
      have htl : ∀ y ∈ l ++ [xl], TinyO 5 y := tinyL_snocTolerance htiny.out Hxt.out
      obtain ⟨A7, c7, rfl⟩ := own_is_slice hown8
      obtain ⟨F7, ho7, hn7, _⟩ := own_Tolerance hown8 (tinyL_wfTolerance htl)
      have HS := Lib.hid (spec_sortTolerance (l ++ [xl]) _ _ w7 ho7.lies (Nat.le_trans (tinyL_sumTolerance htl) (by simp; omega)) (by simp; omega))
      have Hgood : Hid ((sortL TolsP befT (l ++ [xl])).2 = true → (sortL TolsP befT (l ++ [xl])).1.length ≤ 4 ∧ ∀ y ∈ (sortL TolsP befT (l ++ [xl])).1, TinyO 5 y) := fun h => by
        rcases sortL_cases (lt := befT) TolsP (l ++ [xl]) with e | ⟨e, hP⟩
        · rw [e] at h; cases h
        · rw [e]
          exact ⟨hP.1, fun y hy => htl y (dsort_sub _ _ y hy)⟩
      have hs7 : w1.heap.size ≤ w7.heap.size := Hg7.out.size
      rw [List.length_append, List.length_singleton] at HS
      clear hown7 hown8 hg7 hat7 hb7 ho7 hn7 htl Hown5 Hg5 Hc5
      generalize sortL TolsP befT (l ++ [xl]) = r at HS Hgood
      obtain ⟨r1, r2⟩ := r
      go_wp2_with fail
      refine HS.out.mono ?_
      rintro e w8 ⟨v8, f8, F8, rfl, ho8, hn8, hb8⟩
      have Ho8 := Lib.hid (ho8.lower (show w.heap.size ≤ w7.heap.size from Nat.le_trans Hgr1.out.size hs7))
      have Hn8 := Lib.hid hn8
      have Hg8 := Lib.hid (draw.grown_below Hg7.out (hb8.mono hs7))
      have Hc8 := Lib.hid (Hc7.out.below (hb8.mono (show c + 1 ≤ w7.heap.size by omega)) (Nat.lt_succ_self c))
      have Ho18 := Lib.hid (own_curF Ho1.out hclt Hg8.out)
      have Hgr8 := Lib.hid (grown_trans Hgr1.out Hg8.out)
      obtain ⟨A8, c8, rfl, _, _, _⟩ := els_of Tolerance.row_length ho8.lies
      clear ho8 hn8 hb8 HS Hg7 Hc7
      cases r2 with
      | true =>
        have hgd := Hgood.out rfl
        have Htg := Lib.hid hgd.2
        have hr6 : r1.length ≤ 4 := hgd.1
        clear hgd Hgood
        go_wp2_with fail
        go_roundw
        case rel => exact ⟨j + 1, r1, f8, F8, hj3, by go_num, hr6, Htg.out, Ho8.out, Hn8.out, Hc8.out, Hgr8.out⟩
        case measure => simp [intOf]; omega
      | false =>
        clear Hgood
        go_wp2_with fail
        go_roundw
        case rel => exact ⟨j + 1, l, f, F, hj3, by go_num, hl6, htiny.out, Ho18.out, hnd.out, Hc8.out, Hgr8.out⟩
        case measure => simp [intOf]; omega
    · go_wp2_with fail
      go_ret
      exact ⟨l, _, f, F, ⟨hl6, htiny.out⟩, rfl, Ho1.out, hnd.out, Hc1.out, Hgr1.out⟩
end Go.Proofs.YtdgedclpaplgoaaGreatDoor.draw
namespace Go.Proofs.YtdgedclpaplgoaaGreatDoor.draw
open Go.ChangeShapes Go.WideShapes Go.ChangeAt Go.RowKit ty lab dedup taint need
set_option linter.unusedVariables false

theorem fl_Tolerance (w : World) (f : Nat) (x : Tolerance) (j : Nat) (d : C) (u : Value) (h : x.row[j]? = some d) (hl : Lies w f u d) : x.cells[j]? = some u := by
  match j, h with
  | 0, h =>
    simp [Tolerance.row] at h
    subst h
    have e := hl.str.1
    subst e
    rfl
  | 1, h =>
    simp [Tolerance.row] at h
    subst h
    have e := hl.bool
    subst e
    rfl
  | 2, h =>
    simp [Tolerance.row] at h
    subst h
    have e := hl.str.1
    subst e
    rfl
  | 3, h =>
    simp [Tolerance.row] at h
    subst h
    have e := hl.int.1
    subst e
    rfl
  | j + 4, h => simp [Tolerance.row] at h
/-- A slice's length. -/
def lenOfTolerance : Value → Nat
  | .slice _ n _ => n
  | _ => 0
set_option maxRecDepth 1000000 in
set_option maxHeartbeats 16000000 in
theorem anyTolerances_any (c : Nat) (A : Option Addr) (len cap : Nat) (z : Nat → Int) (w : World) (hc : Cur w c A len cap z) :
    Calls Tryz.prog 51 #[.pointer (some ⟨c, 0, none⟩)] w (GotF 4 Tolerance.row (fun l => l.length ≤ 41 ∧ ∀ x ∈ l, TinyO 5 x) c A len cap z w) := by
  obtain ⟨i0, hi, hz0, hz1, hz2⟩ := info_parts TryzinfITolerance
  have hclt := hc.lt
  have HL := Lib.hid (Tolerances_any c A len cap z w hc)
  clear hc
  go_enter Tryz.func51, Tryz.ntmps51
  go_wp2_with fail
  refine HL.out.mono ?_
  rintro e w1 ⟨l, v, f, F, ⟨hl4, htiny⟩, rfl, ho, hnd, hc1, hg1⟩
  obtain ⟨e0, hst⟩ := StF.of_got Tolerance.row_length Tolerance.cells_len fl_Tolerance 46 ho hc1 hg1
  have S1 := Lib.hid hst
  have HT := Lib.hid htiny
  have Hl4 := Lib.hid hl4
  clear HL ho hnd hc1 hg1 hst htiny hl4
  go_wp2_with fail
  go_loopw [3, 4] (fun vo i wr => ∃ (j : Nat) (m : List Tolerance) (q : TypeId), j ≤ 4 ∧ i = .int .i64 j ∧ m.length ≤ 4 + j ∧ Hid (∀ x ∈ m, TinyO 5 x) ∧ StF 4 Tolerance.cells w c A len cap z q vo m wr) (fun _ i _ => 4 - (intOf i).toNat)
  case atStart => exact ⟨0, l, e0, by omega, rfl, by have := Hl4.out; omega, HT.out, S1.out⟩
  case round =>
    clear S1 HT Hl4
    obtain ⟨j, m, q, hj, rfl, hml, htm, hst⟩ := hrel
    obtain ⟨Am, cm, rfl⟩ := own_is_slice hst.row
    have S3 := Lib.hid hst
    have HB := Lib.hid (below_any c A len cap z 4 wr hst.cur (by decide) (by decide))
    clear hst
    go_wp2_with fail
    refine HB.out.mono ?_
    rintro e w4 ⟨x, hx, rfl, hc4, hg4⟩
    have S4 := Lib.hid (S3.out.turn hclt hc4 hg4)
    clear hg4 HB S3
    by_cases hlt : (j : Int) < x
    · have hj5 : j ≤ 3 := by omega
      have HK := Lib.hid (anyTol_any c A len cap z w4 hc4)
      clear hc4
      go_wp2_with fail
      refine HK.out.mono ?_
      rintro e w5 ⟨xl, hxt, he, hc5, hg5⟩
      obtain rfl : e = .returned (.agg #[.string xl.key, .bool xl.equal, .string xl.value, .int .i64 xl.effect]) := he
      have S5 := Lib.hid (S4.out.turn hclt hc5 hg5)
      have hs5 := S5.out.grown.size
      have Hxt := Lib.hid hxt
      clear HK S4 hc5 hg5 hxt
      go_wp2_with (first | (at_builtin; refine wpList_append_anyE rfl (.tmp 13) (.tmp 16) 37 rfl w.heap.size 46 q i0 _ 4 48 Tryz.underlying37 hi hz0 hz1 hz2 rfl (by decide) _ m.length _ rfl (S5.out.alloc hclt _).row w5.heap.size 1 1 [.string xl.key, .bool xl.equal, .string xl.value, .int .i64 xl.effect] rfl (rdk_lay w5 46 [.string xl.key, .bool xl.equal, .string xl.value, .int .i64 xl.effect] rfl) (by decide) (Tolerance.cells_one xl) (by unfold maxLen; omega) (by omega) (by simp; omega) ?_) | fail)
      intro v7 w7 e7 hown7 hg7 hat7
      have S7 := Lib.hid (S5.out.more (x := xl) hclt hown7 hg7)
      have HT7 := Lib.hid (tinyL_snocTolerance htm.out Hxt.out)
      have hm7 : (m ++ [xl]).length ≤ 4 + (j + 1) := by simp; omega
      clear hown7 hg7 hat7 S5
      go_wp2_with fail
      go_roundw
      case rel => exact ⟨j + 1, m ++ [xl], e7, by omega, by go_num, hm7, HT7.out, S7.out⟩
      case measure => simp [intOf]; omega
    · have hm8 : m.length ≤ 8 := by omega
      have HO := Lib.hid (once_any c A len cap z 20 w4 hc4 (by decide) (by decide))
      clear hc4
      go_wp2_with fail
      refine HO.out.mono ?_
      rintro e w5 ⟨b, rfl, hc5, hg5⟩
      have S5 := Lib.hid (S4.out.turn hclt hc5 hg5)
      clear HO S4 hc5 hg5
      cases b with
      | false =>
        have HR := Lib.hid (S5.out.got (row := Tolerance.row) (Wf := Tolerance.Wf) (P := (fun l => l.length ≤ 41 ∧ ∀ x ∈ l, TinyO 5 x)) Tolerance.row_length (fun x h => Tolerance.owned h) ⟨by omega, htm.out⟩ (tinyL_wfTolerance htm.out))
        go_wp2_with fail
        go_ret
        exact HR.out
      | true =>
        go_wp2_with fail
        go_loopw [3] (fun vo wr => ∃ (m2 : List Tolerance) (q2 : TypeId), m2.length ≤ 41 ∧ lenOfTolerance vo = m2.length ∧ Hid (∀ x ∈ m2, TinyO 5 x) ∧ StF 4 Tolerance.cells w c A len cap z q2 vo m2 wr) (fun vo _ => 41 - lenOfTolerance vo)
        case atStart => exact ⟨m, q, by omega, rfl, htm.out, S5.out⟩
        case round =>
          clear S5 htm hm8 hml
          obtain ⟨m2, q, hm2, hlo, htm, hst⟩ := hrel
          obtain ⟨Am2, cm2, rfl⟩ := own_is_slice hst.row
          have S6 := Lib.hid hst
          have HB := Lib.hid (below_any c A len cap z 2 wr hst.cur (by decide) (by decide))
          clear hst hlo
          go_wp2_with fail
          refine HB.out.mono ?_
          rintro e w7 ⟨x2, hx2, rfl, hc7, hg7⟩
          have S7 := Lib.hid (S6.out.turn hclt hc7 hg7)
          have hs7 := S7.out.grown.size
          have hwx : IntKind.i64.wrap (40 + x2) = 40 + x2 := IntWalk.i64_in _ (by omega)
          clear HB S6 hc7 hg7
          by_cases hlt2 : (m2.length : Int) < 40 + x2
          · go_wp2_with (first | (at_builtin; refine wpList_append_anyE rfl (.tmp 26) (.tmp 28) 37 rfl w.heap.size 46 q i0 _ 4 48 Tryz.underlying37 hi hz0 hz1 hz2 rfl (by decide) _ m2.length _ rfl (S7.out.alloc hclt _).row w7.heap.size 1 1 [.string ⟨#[97]⟩, .bool false, .string ⟨#[]⟩, .int .i64 0] rfl (rdk_lay w7 46 [.string ⟨#[97]⟩, .bool false, .string ⟨#[]⟩, .int .i64 0] rfl) (by decide) (by intro u hu; simp at hu; rcases hu with rfl | rfl | rfl | rfl <;> rfl) (by unfold maxLen; omega) (by omega) (by simp; omega) ?_) | fail)
            intro v9 w9 e9 hown9 hg9 hat9
            have S9 := Lib.hid (S7.out.more (x := (⟨⟨#[97]⟩, false, ⟨#[]⟩, 0⟩ : Tolerance)) hclt hown9 hg9)
            have HT9 := Lib.hid (tinyL_snocTolerance (x := (⟨⟨#[97]⟩, false, ⟨#[]⟩, 0⟩ : Tolerance)) htm.out ⟨by decide, by decide, by decide, by decide⟩)
            have hm9 : (m2 ++ [(⟨⟨#[97]⟩, false, ⟨#[]⟩, 0⟩ : Tolerance)]).length ≤ 41 := by simp; omega
            obtain ⟨A9, c9, rfl⟩ := own_is_slice hown9
            clear hown9 hg9 hat9 S7
            go_wp2_with fail
            go_roundw
            case rel => exact ⟨m2 ++ [(⟨⟨#[97]⟩, false, ⟨#[]⟩, 0⟩ : Tolerance)], e9, hm9, by simp [lenOfTolerance], HT9.out, S9.out⟩
            case measure => simp [lenOfTolerance]; omega
          · have HR := Lib.hid (S7.out.got (row := Tolerance.row) (Wf := Tolerance.Wf) (P := (fun l => l.length ≤ 41 ∧ ∀ x ∈ l, TinyO 5 x)) Tolerance.row_length (fun x h => Tolerance.owned h) ⟨hm2, htm.out⟩ (tinyL_wfTolerance htm.out))
            go_wp2_with fail
            go_ret
            exact HR.out
end Go.Proofs.YtdgedclpaplgoaaGreatDoor.draw
namespace Go.Proofs.YtdgedclpaplgoaaGreatDoor.draw
open Go.ChangeShapes Go.WideShapes Go.ChangeAt Go.RowKit ty lab dedup taint need
set_option linter.unusedVariables false

/-- A drawn list in memory of the call's own. -/
def DrawnTolerance (w : World) (e : Ending) (w' : World) : Prop := ∃ (l : List Tolerance) (v : Value) (f : Nat) (F : List Nat), l.length ≤ 41 ∧ (∀ x ∈ l, TinyO 5 x) ∧ e = .returned v ∧ Own w' w.heap.size (f + 1) v (.sl 4 l.length (l.flatMap Tolerance.row)) F ∧ Below w.heap.size w w'
set_option maxRecDepth 1000000 in
theorem drawSortTolerance (A : Option Addr) (len cap : Nat) (zs : List Int) (w : World) (hr : IsRow .u8 w A len cap zs) (hlen : len ≤ 1048576) :
    Calls Tryz.prog 16 #[.slice A len cap] w fun e w' => DrawnTolerance w e w' := by
  have HN := Lib.hid (new_any A len cap zs w hr hlen)
  clear hr
  go_enter Tryz.func16, Tryz.ntmps16
  go_wp2_with fail
  refine HN.out.mono ?_
  clear HN
  rintro e w1 ⟨c, rfl, hcw, hc, hb1⟩
  generalize (fun j => zs.getD j 0) = z at hc
  have HA := Lib.hid (anyTolerances_any c A len cap z w1 hc)
  clear hc
  go_wp2_with fail
  refine HA.out.mono ?_
  clear HA
  rintro e w2 ⟨l, v, f, F, ⟨hl, ht⟩, rfl, ho, hnd, hc2, hg2⟩
  have HR := Lib.hid (show DrawnTolerance w (.returned v) w2 from ⟨l, v, f, F, hl, ht, rfl, ho.lower hb1.size, hb1.grown hg2 hb1.size (fun b hb => by injection hb with hb; omega)⟩)
  clear ho hnd hc2 hg2 hl ht
  go_wp2_with fail
  go_ret
  exact HR.out
end Go.Proofs.YtdgedclpaplgoaaGreatDoor.draw
