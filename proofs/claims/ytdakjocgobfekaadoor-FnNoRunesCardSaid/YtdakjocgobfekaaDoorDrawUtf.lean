/- Drawn texts of characters: l07Text, l04Spoilt, l07Any, DrawUtf8Ok. -/
import Derived.Test.YtdakjocgobfekaaDoorDrawRune
import Derived.Test.YtdakjocgobfekaaDoorDrawPickS
import Derived.Test.YtdakjocgobfekaaDoorBytesOf
import Derived.Test.YtdakjocgobfekaaDoorRtS
namespace Go.Proofs.YtdakjocgobfekaaDoor.draw
open Go.ChangeShapes Go.WideShapes Go.ChangeAt Go.RowKit
set_option linter.unusedVariables false

set_option maxRecDepth 100000 in
theorem text7_any (c : Nat) (A : Option Addr) (len cap : Nat) (z : Nat → Int) (w : World) (hc : Cur w c A len cap z) :
    Calls Tryd.prog 37 #[.pointer (some ⟨c, 0, none⟩), .int .i64 6] w (GotS (fun x => x.size ≤ 28) c A len cap z w) := by
  obtain ⟨i0, hi, hz0, hz1, hz2⟩ := info_parts TrydinfoI
  have hclt := hc.lt
  have hown := World.ownsRow_lit (size := 1) (base := w.heap.size) (e := 3) w #[] 0 (Nat.le_refl _) (by simp [maxLen]) rfl
  have Hc2 := Lib.hid (cur_alloc hc (.cells #[] 3))
  have Hown := Lib.hid hown
  have Hg := Lib.hid (grown_alloc w (.cells #[] 3) (some c))
  clear hown hc
  go_enter Tryd.func37, Tryd.ntmps37
  go_wp2_with fail
  go_loopw [5, 6] (fun v i wr => ∃ (k : Nat) (l : List Int), k ≤ 7 ∧ i = .int .i64 k ∧ l.length = k ∧ Hid (∀ x ∈ l, I64 x) ∧ wr.ownsRow w.heap.size 3 1 v k (icells l) ∧ Cur wr c A len cap z ∧ w.grownBy wr (some c)) (fun _ i _ => 7 - (intOf i).toNat)
  case atStart => exact ⟨0, [], Nat.zero_le _, rfl, rfl, fun x hx => by simp at hx, Hown.out, Hc2.out, Hg.out⟩
  case round =>
    clear Hown Hc2 Hg
    obtain ⟨k, l, hk, rfl, hll, hall, hown, hcur, hgr⟩ := hrel
    have Hll := Lib.hid hll
    clear hll
    have HB := Lib.hid (below_any c A len cap z 7 wr hcur (by decide) (by decide))
    go_wp2_with fail
    refine HB.out.mono ?_
    clear HB
    rintro e w2 ⟨x, hx, rfl, hcur2, hg2⟩
    have hown2 := kept_own' hown hclt hg2
    have hgr2 := grown_trans hgr hg2
    clear hown hcur hgr hg2
    by_cases hlt : (k : Int) < x
    · have hk8 : k < 7 := by omega
      have HR := Lib.hid (rune_any c A len cap z w2 hcur2)
      clear hcur2
      go_wp2_with fail
      refine HR.out.mono ?_
      clear HR
      rintro e w3 ⟨y, hy, rfl, hcur3, hg3⟩
      have hown3 := kept_own' hown2 hclt hg3
      have hgr3 := grown_trans hgr2 hg3
      have hws : w.heap.size ≤ w3.heap.size := hgr3.size
      clear hown2 hgr2 hg3
      go_wp2_with (at_builtin; refine wpList_append_own _ rfl (.tmp 16) (.tmp 19) 24 rfl w.heap.size 3 i0 (.int .i64 0) 1 8 Tryd.underlying24 hi hz0 hz1 hz2 rfl (by decide) _ k _ rfl (hown3.alloc _) ⟨w3.heap.size, 0, none⟩ 1 1 (icells [y]) rfl rfl (by exact lit_cells _ _ _) (by intro u hu; simp [icells] at hu; subst hu; rfl) (by unfold maxLen; omega) (by omega) (by simp; omega) ?_)
      intro v4 w4 hown4 hg4 _
      have hb4 : Below w.heap.size w3 w4 := ((Below.refl w.heap.size w3).alloc hws _).grown hg4 (by simp; omega) (fun b hb => (hown3.lt b hb).1)
      have hcur4 := hcur3.below hb4 hclt
      have hgr4 := grown_below hgr3 hb4
      have Hall : Hid (∀ u ∈ l ++ [y], I64 u) := fun u hu => by
        rcases List.mem_append.1 hu with h | h
        · exact hall.out u h
        · simp at h; subst h; exact hy
      clear hown3 hcur3 hgr3 hg4 hb4 hall hy
      go_wp2_with fail
      go_roundw
      case rel => exact ⟨k + 1, l ++ [y], by omega, by go_num, by simp [Hll.out], Hall, by rw [icells_append]; exact hown4, hcur4, hgr4⟩
      case measure => simp [intOf]; omega
    · obtain ⟨A1, c1, rfl, hn1, hc1, hr1⟩ := Rd.of_own hown2
      have HJ := Lib.hid (rune.spec_join A1 k c1 l w2 (by omega) Hll.out hr1 (fun u hu => (hall.out u hu).wf))
      have hsz : (rune.joinF l).size ≤ 28 := by
        have h1 := rune.joinL_le l
        have h2 := rune.joinF_size l
        have h3 := Hll.out
        omega
      have Hgr := Lib.hid hgr2
      have Hcur := Lib.hid hcur2
      clear hown2 hgr2 hcur2 hr1 hall
      generalize rune.joinF l = s at HJ hsz
      go_wp2_with fail
      refine HJ.out.mono ?_
      rintro e w3 ⟨rfl, hb3⟩
      clear HJ
      have hs := Hcur.out.lt
      have Hcur3 := Lib.hid (Hcur.out.below hb3 hs)
      have Hgr3 := Lib.hid (grown_below Hgr.out (hb3.mono Hgr.out.size))
      clear Hcur Hgr hb3
      go_wp2_with fail
      go_ret
      exact ⟨s, hsz, rfl, Hcur3.out, Hgr3.out⟩

theorem setCell_below (w : World) (B j : Nat) (v : Value) : Below B w (w.setCell ⟨B, j, none⟩ v) := (Below.refl B w).setCell (Nat.le_refl _) _
/-- Live bytes beside a cursor. -/
theorem live_kept {w w' : World} {B : Nat} {l : List UInt8} (h : binfo.Live w B l) (hB : l ≠ [] → w'.heap[B]? = w.heap[B]?) : binfo.Live w' B l := by
  intro j hj
  have e := hB (by intro e; subst e; simp at hj)
  obtain ⟨h1, h2⟩ := h j hj
  refine ⟨(World.cell?_of_block e).trans h1, ?_⟩
  rw [← h2]
  unfold World.frozen?
  rw [e]

set_option maxRecDepth 100000 in
theorem spoilt_any (c : Nat) (A : Option Addr) (len cap : Nat) (z : Nat → Int) (s : ByteArray) (w : World) (hc : Cur w c A len cap z) (hs : s.size ≤ 1000) :
    Calls Tryd.prog 38 #[.pointer (some ⟨c, 0, none⟩), .string s] w (GotS (fun x => x.size ≤ s.size + 1) c A len cap z w) := by
  by_cases h0 : s.size = 0
  · have Hc := Lib.hid hc
    clear hc
    go_enter Tryd.func38, Tryd.ntmps38
    go_wp2_with fail
    go_ret
    exact ⟨⟨#[120]⟩, by rw [h0]; decide, rfl, Hc.out, World.grownBy.refl _ _⟩
  · obtain ⟨cp, w1, hconv, hb1, hlive⟩ := binfo.of_bytes s w
    have hclt := hc.lt
    have hc1 := hc.below hb1 hclt
    have hg1 : w.grownBy w1 (some c) := grown_of_below hb1 _
    have HB := Lib.hid (below_any c A len cap z (s.size : Int) w1 hc1 (by omega) (by omega))
    have Hlive := Lib.hid hlive
    have Hg1 := Lib.hid hg1
    have hw1 : w.heap.size < w1.heap.size := by
      have h := (hlive 0 (by simp; have : s.size = s.data.size := rfl; omega)).1
      exact World.block_lt_of_cell? w1 _ h
    clear hc hc1 hlive hg1 hb1
    go_enter Tryd.func38, Tryd.ntmps38
    go_wp2_with fail
    refine HB.out.mono ?_
    rintro e w2 ⟨k, hk, rfl, hc2, hg2⟩
    clear HB
    have H4 := Lib.hid (below_any c A len cap z 4 w2 hc2 (by decide) (by decide))
    have Hlive2 := Lib.hid (live_kept Hlive.out (fun _ => hg2.block w.heap.size hw1 (by intro e; injection e with e; omega)))
    have Hg2 := Lib.hid (grown_trans Hg1.out hg2)
    have hw2 : w.heap.size < w2.heap.size := Nat.lt_of_lt_of_le hw1 hg2.size
    clear hc2 hg2 Hlive Hg1 hconv hw1
    go_wp2_with fail
    refine H4.out.mono ?_
    rintro e w3 ⟨x, hx, rfl, hc3, hg3⟩
    clear H4
    have Hlive3 := Lib.hid (live_kept Hlive2.out (fun _ => hg3.block w.heap.size hw2 (by intro e; injection e with e; omega)))
    have Hg3 := Lib.hid (grown_trans Hg2.out hg3)
    have hw3 : w.heap.size < w3.heap.size := Nat.lt_of_lt_of_le hw2 hg3.size
    have Hc3 := Lib.hid hc3
    clear hc3 hg3 Hlive2 Hg2 hw2
    by_cases hx0 : x = 0
    · subst hx0
      obtain ⟨m, hm⟩ : ∃ m : Nat, s.size = m + 1 := ⟨s.size - 1, by omega⟩
      have em : (s.size : Int) - 1 = (m : Int) := by omega
      have hms : m ≤ s.size := by omega
      clear Hlive3 hx hk h0
      go_wp2_with fail
      go_ret
      exact ⟨s.extract 0 m, by show (s.extract 0 m).size ≤ s.size + 1; rw [ByteArray.size_extract]; omega, rfl, Hc3.out, Hg3.out⟩
    have e0 : (x == 0) = false := beq_eq_false_iff_ne.2 hx0
    have H1 := Lib.hid (byte_any c A len cap z w3 Hc3.out)
    by_cases hx1 : x = 1
    · subst hx1
      clear Hlive3 hx hk
      go_wp2_with fail
      refine H1.out.mono ?_
      rintro e w4 ⟨y, hy, rfl, hc4, hg4⟩
      have Hc5 := Lib.hid (cur_alloc hc4 (.cells #[.int .u8 y] 5))
      have Hg5 := Lib.hid (grown_trans (grown_trans Hg3.out hg4) (grown_alloc w4 (.cells #[.int .u8 y] 5) (some c)))
      have e3 : IntKind.u8.wrap y = y := by rw [IntKind.wrap_u8]; omega
      have hconv := rune.conv_row w4.heap.size 1 (w4.alloc (.cells #[.int .u8 y] 5)) _ [UInt8.ofNat y.toNat] (heap_alloc_new w4 _) (by simp [bcells]; omega) rfl (by decide)
      have hsz : ([UInt8.ofNat y.toNat].toArray).size = 1 := rfl
      have hz1 : (⟨[UInt8.ofNat y.toNat].toArray⟩ : ByteArray).size = 1 := rfl
      generalize (⟨[UInt8.ofNat y.toNat].toArray⟩ : ByteArray) = t at hconv hz1
      have hadd : ¬ 9223372036854775807 < s.size + t.size := by omega
      clear H1 hc4 hg4 Hc3 Hg3 hsz
      go_wp2_with fail
      go_ret
      exact ⟨s ++ t, by show (s ++ t).size ≤ s.size + 1; rw [ByteArray.size_append, hz1]; exact Nat.le_refl _, rfl, Hc5.out, Hg5.out⟩
    · have e1 : (x == 1) = false := beq_eq_false_iff_ne.2 hx1
      obtain ⟨j, rfl⟩ := Int.eq_ofNat_of_zero_le hk.1
      have hjs : j < s.size := by omega
      clear hx
      go_wp2_with fail
      refine H1.out.mono ?_
      rintro e w4 ⟨y, hy, rfl, hc4, hg4⟩
      have e3 : IntKind.u8.wrap y = y := by rw [IntKind.wrap_u8]; omega
      have hl4 := live_kept Hlive3.out (fun _ => hg4.block w.heap.size hw3 (by intro e; injection e with e; omega))
      have hw4 : w.heap.size < w4.heap.size := Nat.lt_of_lt_of_le hw3 hg4.size
      have hjl : j < s.data.toList.length := by simp; exact hjs
      obtain ⟨hcell, hfr⟩ := hl4 j hjl
      have hl5 := binfo.live_set hl4 j (UInt8.ofNat y.toNat) hjl
      have hy2 : ((UInt8.ofNat y.toNat).toNat : Int) = y := by simp; omega
      rw [hy2] at hl5
      have hback := binfo.back (n := s.size) (cap := cp) (by simp) hl5
      have Hc5 := Lib.hid (hc4.below (setCell_below w4 w.heap.size j (.int .u8 y)) hclt)
      have Hg5 := Lib.hid (grown_below (grown_trans Hg3.out hg4) (setCell_below w4 w.heap.size j (.int .u8 y)))
      have hsz : (⟨(s.data.toList.set j (UInt8.ofNat y.toNat)).toArray⟩ : ByteArray).size = s.size := by
        show ((s.data.toList.set j (UInt8.ofNat y.toNat)).toArray).size = _
        rw [List.size_toArray, List.length_set]
        simp
      generalize (⟨(s.data.toList.set j (UInt8.ofNat y.toNat)).toArray⟩ : ByteArray) = t at hback hsz
      generalize s.data.toList[j] = old at hcell
      clear H1 hc4 hg4 Hc3 Hg3 hl4 hl5 hy2 Hlive3
      go_wp2_with fail
      go_ret
      exact ⟨t, by omega, rfl, Hc5.out, Hg5.out⟩

def bads : List ByteArray := [⟨#[192, 128]⟩, ⟨#[193, 191]⟩, ⟨#[224, 128, 128]⟩, ⟨#[237, 160, 128]⟩, ⟨#[244, 144, 128, 128]⟩, ⟨#[248, 136, 128, 128, 128]⟩, ⟨#[128]⟩, ⟨#[255]⟩, ⟨#[226, 130]⟩]
theorem bads_size : ∀ x ∈ bads, x.size ≤ 5 := by decide
set_option maxRecDepth 100000 in
theorem any7_any (c : Nat) (A : Option Addr) (len cap : Nat) (z : Nat → Int) (w : World) (hc : Cur w c A len cap z) :
    Calls Tryd.prog 31 #[.pointer (some ⟨c, 0, none⟩)] w (GotS (fun x => x.size ≤ 100) c A len cap z w) := by
  have H7 := Lib.hid (text7_any c A len cap z w hc)
  clear hc
  go_enter Tryd.func31, Tryd.ntmps31
  go_wp2_with fail
  refine H7.out.mono ?_
  rintro e w1 ⟨s, hs, rfl, hc1, hg1⟩
  clear H7
  have H5 := Lib.hid (below_any c A len cap z 5 w1 hc1 (by decide) (by decide))
  have Hg1 := Lib.hid hg1
  clear hc1 hg1
  go_wp2_with fail
  refine H5.out.mono ?_
  rintro e w2 ⟨x, hx, rfl, hc2, hg2⟩
  clear H5
  have Hg2 := Lib.hid (grown_trans Hg1.out hg2)
  clear hg2 Hg1
  by_cases hx0 : x = 0
  · subst hx0
    have HS := Lib.hid (spoilt_any c A len cap z s w2 hc2 (by omega))
    clear hc2 hx
    go_wp2_with fail
    refine HS.out.mono ?_
    rintro e w3 ⟨t, ht, rfl, hc3, hg3⟩
    have Hg3 := Lib.hid (grown_trans Hg2.out hg3)
    have Hc3 := Lib.hid hc3
    clear HS hg3 hc3 Hg2
    go_wp2_with fail
    go_ret
    exact ⟨t, by omega, rfl, Hc3.out, Hg3.out⟩
  have e0 : (x == 0) = false := beq_eq_false_iff_ne.2 hx0
  by_cases hx1 : x = 1
  · subst hx1
    have HP := Lib.hid (pickS_any c A len cap z w2.heap.size 9 (.slice (some ⟨w2.heap.size, 0, none⟩) 9 9) bads _ (cur_alloc hc2 (.cells (scells bads).toArray 9)) (by decide) (by decide) rfl hc2.lt (World.ownsRow_lit w2 (scells bads).toArray 9 (Nat.le_refl _) (by simp [maxLen]) rfl))
    clear hc2 hx
    go_wp2_with fail
    refine HP.out.mono ?_
    rintro e w3 ⟨t, ht, rfl, hc3, hg3⟩
    have ht2 := bads_size t ht
    have Hg3 := Lib.hid (grown_trans Hg2.out (grown_trans (grown_alloc _ _ _) hg3))
    have Hc3 := Lib.hid hc3
    have hadd : ¬ 9223372036854775807 < s.size + t.size := by omega
    have hst : (s ++ t).size = s.size + t.size := ByteArray.size_append
    have hadd2 : ¬ 9223372036854775807 < (s ++ t).size + s.size := by omega
    clear HP hg3 hc3 Hg2 ht
    go_wp2_with fail
    go_ret
    exact ⟨s ++ t ++ s, by show (s ++ t ++ s).size ≤ 100; rw [ByteArray.size_append]; omega, rfl, Hc3.out, Hg3.out⟩
  · have e1 : (x == 1) = false := beq_eq_false_iff_ne.2 hx1
    have Hc2 := Lib.hid hc2
    clear hc2 hx
    go_wp2_with fail
    go_ret
    exact ⟨s, by omega, rfl, Hc2.out, Hg2.out⟩

theorem utf8_any (A : Option Addr) (len cap : Nat) (zs : List Int) (w : World) (hr : IsRow .u8 w A len cap zs) (hlen : len ≤ 1048576) :
    Calls Tryd.prog 19 #[.slice A len cap] w fun e w' => ∃ s : ByteArray, s.size ≤ 100 ∧ e = .returned (.string s) ∧ Below w.heap.size w w' := by
  have HN := Lib.hid (new_any A len cap zs w hr hlen)
  clear hr
  go_enter Tryd.func19, Tryd.ntmps19
  go_wp2_with fail
  refine HN.out.mono ?_
  clear HN
  rintro e w1 ⟨c, rfl, hcw, hc, hb1⟩
  generalize (fun j => zs.getD j 0) = z at hc
  have HR := Lib.hid (any7_any c A len cap z w1 hc)
  clear hc
  go_wp2_with fail
  refine HR.out.mono ?_
  rintro e w2 ⟨s, hs, rfl, hc2, hg2⟩
  have Hb := Lib.hid (hb1.grown hg2 hb1.size (fun b hb => by injection hb with hb; omega))
  clear hc2 hg2 hb1 HR
  go_wp2_with fail
  go_ret
  exact ⟨s, hs, rfl, Hb.out⟩
end Go.Proofs.YtdakjocgobfekaaDoor.draw
