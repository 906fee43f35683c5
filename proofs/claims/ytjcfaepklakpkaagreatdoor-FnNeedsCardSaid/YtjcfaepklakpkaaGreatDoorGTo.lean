/- Merged: LawStrTo ToStr ToNeed ToNeedS. -/
import Derived.Test.YtjcfaepklakpkaaGreatDoorRows
import Derived.Test.YtjcfaepklakpkaaGreatDoorBase
import Derived.ProofKit
import Derived.OpenShut
import Derived.OwnWalk
import Derived.Test.YtjcfaepklakpkaaGreatDoorGPre
import Derived.Deep.WholeRow
namespace Go.Proofs.YtjcfaepklakpkaaGreatDoor.lawStr
open Go.ChangeShapes Go.WideShapes Go.ChangeAt Go.RowKit
set_option linter.unusedVariables false

theorem TryzinfoStr : (Tryz.prog.info? 9).map (fun i => (i.zero, i.size, i.bytes)) = some (some (.string ⟨#[]⟩), 1, 16) := by kernel_rfl

theorem to_step (xs : List Value) (l : List ByteArray) (k n : Nat) (hl : l.length = n) (hx : xs.length = n) (hk : k < n) :
    (scells (l.take k) ++ xs.drop k).set k (.string (l.getD k ⟨#[]⟩)) = scells (l.take (k + 1)) ++ xs.drop (k + 1) := by
  have hk2 : k < l.length := by omega
  rw [List.take_succ_eq_append_getElem hk2, scells_append, List.append_assoc]
  have hlen : (scells (l.take k)).length = k := by rw [scells_length, List.length_take]; omega
  rw [List.set_append_right _ _ (by omega)]
  congr 1
  rw [hlen, Nat.sub_self, List.drop_eq_getElem_cons (by omega : k < xs.length), List.set_cons_zero]
  rw [List.getD_eq_getElem?_getD, List.getElem?_eq_getElem hk2]
  rfl

theorem to_any (A : Option Addr) (n c : Nat) (l : List ByteArray) (w : World) (hn : n ≤ 1048576) (hln : l.length = n) (h : Rd w A n (scells l)) :
    Calls Tryz.prog 68 #[.slice A n c] w fun e w' => ∃ g, e = .returned (.slice (some ⟨g, 0, none⟩) n n) ∧ w'.ownsRow w.heap.size 9 1 (.slice (some ⟨g, 0, none⟩) n n) n (scells l) ∧ Below w.heap.size w w' := by
  obtain ⟨i0, hi, hz0, hz1, hz2⟩ := info_parts TryzinfoStr
  have H := Lib.hid h
  have Hl := Lib.hid hln
  clear h hln
  go_enter Tryz.func68, Tryz.ntmps68
  go_wp2_with (at_make; refine wpList_make_full _ rfl _ _ 29 rfl w.heap.size 9 i0 (.string ⟨#[]⟩) 1 Tryz.underlying29 hi hz0 hz1 .i64 .i64 (n : Int) (n : Int) n rfl rfl rfl rfl (by rw [hz2]; omega) (by unfold maxLen; omega) (by simp) ?_)
  intro w1 hown1 hg1
  have hb1 : Below w.heap.size w w1 := (Below.refl _ _).grown hg1 (Nat.le_refl _) (fun b hb => by cases hb)
  obtain ⟨xs, hxl, hown⟩ : ∃ xs : List Value, xs.length = n ∧ w1.ownsRow w.heap.size 9 1 (.slice (some ⟨w.heap.size, 0, none⟩) n n) n xs := ⟨_, by simpa using hown1.1, hown1⟩
  have Hx := Lib.hid hxl
  have Hown := Lib.hid hown
  have Hb1 := Lib.hid hb1
  clear hown1 hown hb1 hg1 hxl
  go_wp2_with fail
  go_loopw [4] (fun i wr => ∃ k : Nat, k ≤ n ∧ i = .int .i64 k ∧ wr.ownsRow w.heap.size 9 1 (.slice (some ⟨w.heap.size, 0, none⟩) n n) n (scells (l.take k) ++ xs.drop k) ∧ Below w.heap.size w wr) (fun i _ => n - (intOf i).toNat)
  case atStart => exact ⟨0, Nat.zero_le _, rfl, by simpa [scells] using Hown.out, Hb1.out⟩
  case round =>
    clear Hown Hb1
    obtain ⟨k, hk, rfl, hown, hbel⟩ := hrel
    by_cases hlt : k < n
    · have hkl : k < l.length := by have := Hl.out; omega
      obtain ⟨g, o, rfl, hg, hc0⟩ := H.out.2 (by omega)
      have hc : wr.cell? ⟨g, o + k, none⟩ = some (.string (l.getD k ⟨#[]⟩)) := (hbel.cell (p := ⟨g, o + k, none⟩) hg).trans (hc0 k hlt _ (by rw [scells_get l k hkl]; simp [List.getD, hkl]))
      have hd := hown.cellAt k (by omega)
      have hf := hown.frozenAt k
      have hln : k < (scells (l.take k) ++ xs.drop k).length := by have := hown.1; omega
      rw [List.getElem?_eq_getElem hln] at hd
      have hst := hown.stored k (.string (l.getD k ⟨#[]⟩))
      rw [to_step xs l k n Hl.out Hx.out hlt] at hst
      have hown2 := hst.1
      have hbel2 : Below w.heap.size w (wr.setCell ⟨w.heap.size, k, none⟩ (.string (l.getD k ⟨#[]⟩))) := hbel.setCell (Nat.le_refl _) _
      clear hst hown hbel hc0 hkl
      generalize (scells (l.take k) ++ xs.drop k)[k] = old at hd
      clear hln
      generalize l.getD k ⟨#[]⟩ = x at hc hown2 hbel2
      have Hown2 := Lib.hid hown2
      have Hbel2 := Lib.hid hbel2
      clear hown2 hbel2
      go_wp2_with fail
      go_roundw
      case rel => exact ⟨k + 1, by omega, by go_num, Hown2.out, Hbel2.out⟩
      case measure => simp [intOf]; omega
    · obtain rfl : k = n := by omega
      rw [List.drop_of_length_le (by have := Hx.out; omega), List.append_nil, List.take_of_length_le (by have := Hl.out; omega)] at hown
      have Hown := Lib.hid hown
      have Hbel := Lib.hid hbel
      clear hown hbel
      go_wp2_with fail
      go_ret
      exact ⟨_, rfl, Hown.out, Hbel.out⟩
end Go.Proofs.YtjcfaepklakpkaaGreatDoor.lawStr
namespace Go.Proofs.YtjcfaepklakpkaaGreatDoor.ty
open Go.ChangeShapes Go.WideShapes Go.ChangeAt Go.RowKit
set_option linter.unusedVariables false

theorem toStr (l : List ByteArray) (f : Nat) (v : Value) (w : World) (h : Lies w f v (.sl 1 l.length (l.flatMap Str.row))) (hw : l.length ≤ 1048576) :
    Calls Tryz.prog 68 #[v] w fun e w' => ∃ v', e = .returned v' ∧ OwnRow w' w.heap.size 1 9 1 v' l.length (l.flatMap Str.row) ∧ Below w.heap.size w w' := by
  obtain ⟨A, c, rfl, _, _, hr, hks⟩ := Str.opened h
  refine (lawStr.to_any A l.length c l w hw rfl hr).mono ?_
  rintro e w1 ⟨g, rfl, hown, hb⟩
  exact ⟨_, rfl, by rw [Str.flat]; exact ownRow_strs hown hks, hb⟩
end Go.Proofs.YtjcfaepklakpkaaGreatDoor.ty
namespace Go.Proofs.YtjcfaepklakpkaaGreatDoor.ty
open Go.ChangeShapes Go.WideShapes Go.ChangeAt Go.RowKit
set_option linter.unusedVariables false

theorem sizeNeed : (Tryz.prog.info? 31).map (·.size) = some 3 := by kernel_rfl
set_option maxRecDepth 100000 in
set_option maxHeartbeats 8000000 in
theorem toNeed (x : Need) (f : Nat) (vs : List Value) (w : World) (h : LiesS w f vs x.row) (hw : x.wt ≤ 1048576) :
    Calls Tryz.prog 40 #[.agg vs.toArray] w fun e w' => AggOut w 2 x.row e w' := by
  obtain ⟨a0, a1, a2⟩ := x
  obtain ⟨A2, c2, rfl, hwf, k2, m2, l2⟩ := Need.opened h
  unfold Need.wt at hw
  simp only at hw hwf k2 m2 l2
  obtain ⟨w1, hw1⟩ : ∃ w1, w1 = ((w.alloc (.cells #[.string a0, .int .i64 a1, .slice A2 a2.length c2] 57)).alloc (.cells #[.string ⟨#[]⟩, .int .i64 0, .slice none 0 0] 31)).alloc (.cells #[.string a0, .int .i64 a1, .slice none 0 0] 31) := ⟨_, rfl⟩
  have hsz : w1.heap.size = w.heap.size + 3 := by subst hw1; simp
  have hb1 : Below w.heap.size w w1 := by subst hw1; exact (((Below.refl _ _).alloc (Nat.le_refl _) _).alloc (by simp) _).alloc (by simp; omega) _
  have h10 : w1.heap[w.heap.size]? = some (.cells #[.string a0, .int .i64 a1, .slice A2 a2.length c2] 57 (0, 0)) := by
    subst hw1
    rw [Below.heap_alloc _ _ _ (by simp; omega), Below.heap_alloc _ _ _ (by simp)]
    exact heap_alloc_new w _
  have h11 : w1.heap[w.heap.size + 1]? = some (.cells #[.string ⟨#[]⟩, .int .i64 0, .slice none 0 0] 31 (0, 0)) := by
    subst hw1
    rw [Below.heap_alloc _ _ _ (by simp)]
    have h := heap_alloc_new (w.alloc (.cells #[.string a0, .int .i64 a1, .slice A2 a2.length c2] 57)) (.cells #[.string ⟨#[]⟩, .int .i64 0, .slice none 0 0] 31)
    simpa using h
  have h12 : w1.heap[w.heap.size + 2]? = some (.cells #[.string a0, .int .i64 a1, .slice none 0 0] 31 (0, 0)) := by
    subst hw1
    have h := heap_alloc_new ((w.alloc (.cells #[.string a0, .int .i64 a1, .slice A2 a2.length c2] 57)).alloc (.cells #[.string ⟨#[]⟩, .int .i64 0, .slice none 0 0] 31)) (.cells #[.string a0, .int .i64 a1, .slice none 0 0] 31)
    simpa using h
  have T2 := Lib.hid (fun w1 (hb : Below w.heap.size w w1) => toStr a2 f (.slice A2 a2.length c2) w1 (l2.below hb) (by omega))
  have Hwf := Lib.hid hwf
  have K0 := Lib.hid h10
  have K1 := Lib.hid h11
  have K2 := Lib.hid h12
  have Hb := Lib.hid hb1
  have Hsz := Lib.hid (show w.heap.size + 3 ≤ w1.heap.size by omega)
  have Hw1 := Lib.hid hw1
  clear h hw hwf hsz hb1 h10 h11 h12 hw1 k2 m2 l2
  go_enter Tryz.func40, Tryz.ntmps40
  go_wp2_with fail
  rw [← Hw1.out]
  clear Hw1
  refine (T2.out _ Hb.out).mono ?_
  rintro e y2 ⟨v2, rfl, r2, b2⟩
  obtain ⟨B2, d2, rfl⟩ := r2.is_slice
  have h20 := heap_kept b2 (heap_lt K0.out) K0.out
  have h21 := heap_kept b2 (heap_lt K1.out) K1.out
  have h22 := heap_kept b2 (heap_lt K2.out) K2.out
  have HB2 := Lib.hid (Hb.out.trans (b2.mono Hb.out.size))
  obtain ⟨F2, o2, n2, g2⟩ := r2.own
  have Hn2 := Lib.hid n2
  have Hr2 := Lib.hid g2
  have Hsb2 := Lib.hid (show w1.heap.size ≤ y2.heap.size from b2.size)
  have p2 : (y2).cell? ⟨w.heap.size + 2, 2, none⟩ = some (.slice none 0 0) := by rw [cell_of_row _ _ 2 _ _ _ h22]; rfl
  have f2 := frozen_of_row (y2) _ 2 _ _ h22
  have k2_2_0 : ((y2).setCell ⟨w.heap.size + 2, 2, none⟩ (.slice B2 a2.length d2)).heap[w.heap.size]? = _ := (Below.heap_setCell _ _ _ _ (by show w.heap.size ≠ w.heap.size + 2; omega)).trans h20
  have k2_2_1 : ((y2).setCell ⟨w.heap.size + 2, 2, none⟩ (.slice B2 a2.length d2)).heap[w.heap.size + 1]? = _ := (Below.heap_setCell _ _ _ _ (by show w.heap.size + 1 ≠ w.heap.size + 2; omega)).trans h21
  have k2_2_2 : ((y2).setCell ⟨w.heap.size + 2, 2, none⟩ (.slice B2 a2.length d2)).heap[w.heap.size + 2]? = some (.cells #[.string a0, .int .i64 a1, .slice B2 a2.length d2] 31 (0, 0)) := heap_setCell_same _ _ _ _ _ _ h22
  have hbz : Below w.heap.size w ((y2).setCell ⟨w.heap.size + 2, 2, none⟩ (.slice B2 a2.length d2)) := (HB2.out.setCell (by show w.heap.size ≤ w.heap.size + 2; omega) _)
  have ow2 := (Own.setCell_low o2 (o := 2) (u := .slice B2 a2.length d2) (show w.heap.size + 2 < w1.heap.size by have := Hsz.out; omega))
  have hzs : ((y2).setCell ⟨w.heap.size + 2, 2, none⟩ (.slice B2 a2.length d2)).heap.size = y2.heap.size := by simp only [size_setCell]
  clear r2 b2 o2 n2 g2 
  have H51 := Lib.hid k2_2_1
  have h52 := k2_2_2
  have h51 := H51.out
  have Hbz := Lib.hid hbz
  clear hbz h20 h21 h22
  clear k2_2_0 k2_2_1 k2_2_2
  generalize hz : (y2).setCell ⟨w.heap.size + 2, 2, none⟩ (.slice B2 a2.length d2) = z at *
  go_wp2_with (first | (refine wpList_load_row rfl 31 _ rfl (w.heap.size + 2) rfl 31 #[.string a0, .int .i64 a1, .slice B2 a2.length d2] (0, 0) _ h52 Tryz.underlying31 rfl sizeNeed ?_) | (refine wpList_store_row rfl 31 _ _ rfl (w.heap.size + 1) #[.string a0, .int .i64 a1, .slice B2 a2.length d2] rfl rfl 31 _ h51 sizeNeed rfl (by simp [Value.oneCell']) ?_) | fail)
  obtain ⟨F, ho, hnd, _⟩ := Need.owned (x := ⟨a0, a1, a2⟩) (f := 1) (w := z.setRow (w.heap.size + 1) #[.string a0, .int .i64 a1, .slice B2 a2.length d2]) Hwf.out (Own.deeper (f := 2) (f' := 2) (by decide) ((Own.setRow_low ow2 (c := #[.string a0, .int .i64 a1, .slice B2 a2.length d2]) (show w.heap.size + 1 < w1.heap.size by have := Hsz.out; omega)).lower (B' := w.heap.size) (by have := Hsz.out; omega))) Hn2.out
  refine bodyPost_ret (v := .agg #[.string a0, .int .i64 a1, .slice B2 a2.length d2]) ?_ rfl ⟨_, F, rfl, ho, hnd, setRow_below Hbz.out (by omega) _⟩
  exact results_cell_row rfl _ _ (w.heap.size + 1) _ _ (0, 0) _ rfl (setRow_at H51.out) Tryz.underlying31 rfl sizeNeed
end Go.Proofs.YtjcfaepklakpkaaGreatDoor.ty
namespace Go.Proofs.YtjcfaepklakpkaaGreatDoor.ty
open Go.ChangeShapes Go.WideShapes Go.ChangeAt Go.RowKit
set_option linter.unusedVariables false

theorem TryzinfoNeed : (Tryz.prog.info? 31).map (fun i => (i.zero, i.size, i.bytes)) = some (some (.agg #[.string ⟨#[]⟩, .int .i64 0, .slice none 0 0]), 3, 48) := by kernel_rfl
set_option maxRecDepth 100000 in
theorem toNeedS (l : List Need) (f : Nat) (v : Value) (w : World) (h : Lies w f v (.sl 3 l.length (l.flatMap Need.row))) (hw : l.length + wsum Need.wt l ≤ 1048576) :
    Calls Tryz.prog 15 #[v] w fun e w' => ∃ v', e = .returned v' ∧ OwnRow w' w.heap.size 2 31 3 v' l.length (l.flatMap Need.row) ∧ Below w.heap.size w w' := by
  obtain ⟨A, c, rfl, hc1, hc2, f', rfl, hk⟩ := els_of Need.row_length h
  obtain ⟨i0, hi, hz0, hz1, hz2⟩ := info_parts TryzinfoNeed
  unfold maxLen at hc2
  have Hk := Lib.hid hk
  have Hw := Lib.hid hw
  have hwl : l.length ≤ 1048576 := by omega
  clear h hk hw
  go_enter Tryz.func15, Tryz.ntmps15
  go_wp2_with (at_make; refine wpList_make_full _ rfl _ _ 24 rfl w.heap.size 31 i0 _ 3 Tryz.underlying24 hi hz0 hz1 .i64 .i64 (l.length : Int) (l.length : Int) l.length rfl rfl rfl rfl (by rw [hz2]; omega) (by unfold maxLen; omega) (by simp) ?_)
  intro w1 hown1 hg1
  have hb1 : Below w.heap.size w w1 := (Below.refl _ _).grown hg1 (Nat.le_refl _) (fun b hb => by cases hb)
  obtain ⟨xs, hown⟩ : ∃ xs : List Value, w1.ownsRow w.heap.size 31 3 (.slice (some ⟨w.heap.size, 0, none⟩) l.length l.length) l.length xs := ⟨_, hown1⟩
  have Hown := Lib.hid hown
  have Hb1 := Lib.hid hb1
  clear hown1 hown hb1 hg1
  go_wp2_with fail
  go_loopw [4] (fun i wr => ∃ (j : Nat) (xs : List Value) (F : List Nat), j ≤ l.length ∧ i = .int .i64 j ∧ wr.ownsRow w.heap.size 31 3 (.slice (some ⟨w.heap.size, 0, none⟩) l.length l.length) l.length xs ∧
    OwnS wr w.heap.size 2 (xs.take (j * 3)) ((l.take j).flatMap Need.row) F ∧ F.Nodup ∧ (∀ x ∈ F, x ≠ w.heap.size) ∧ Below w.heap.size w wr) (fun i _ => l.length - (intOf i).toNat)
  case atStart => exact ⟨0, xs, [], Nat.zero_le _, rfl, Hown.out, by simpa using OwnS.nil, List.nodup_nil, (fun x hx => by cases hx), Hb1.out⟩
  case round =>
    clear Hown Hb1 xs
    obtain ⟨j, xs, F, hj, rfl, hown, ho, hnd, hne, hbel⟩ := hrel
    by_cases hlt : j < l.length
    · obtain ⟨g, o, rfl, hg, us0, hus, hc, hls⟩ := (Hk.out.below hbel).get hlt
      have hwt : l[j].wt ≤ 1048576 := by have h1 := wsum_mem Need.wt hlt; have h2 := Hw.out; omega
      have HC := Lib.hid (toNeed l[j] _ us0 wr hls hwt)
      obtain ⟨A2, c2, rfl, hwf, k2, m2, l2⟩ := Need.opened hls
      have q0 : wr.cell? ⟨g, o + j * 3, none⟩ = some (.string l[j].key) := hc 0 _ rfl
      have q1 : wr.cell? ⟨g, o + j * 3 + 1, none⟩ = some (.int .i64 l[j].op) := hc 1 _ rfl
      have q2 : wr.cell? ⟨g, o + j * 3 + 2, none⟩ = some (.slice A2 l[j].values.length c2) := hc 2 _ rfl
      have hr1 : (l.take (j + 1)).flatMap Need.row = (l.take j).flatMap Need.row ++ l[j].row := by
        rw [List.take_succ_eq_append_getElem hlt, List.flatMap_append]; simp
      have Hr1 := Lib.hid hr1
      have Hown := Lib.hid hown
      have Ho := Lib.hid ho
      have Hbel := Lib.hid hbel
      have hlb : w.heap.size < wr.heap.size := (hown.lt w.heap.size rfl).2
      have Hlb := Lib.hid hlb
      have hrl := Need.row_length l[j]
      have Hrl := Lib.hid hrl
      clear hls hg hwf hr1 hown ho hbel hlb hus hc hwt hrl k2 m2 l2
      generalize l[j] = x at HC Hr1 Hrl q0 q1 q2
      go_wp2_with fail
      refine HC.out.mono ?_
      rintro e w2 ⟨us, G, rfl, hoG, hnG, hb2⟩
      have hlen : us.length = 3 := by rw [hoG.1, Hrl.out]
      have hown2 := own_below' Hown.out hb2
      have ho2 := Ho.out.below hb2
      have hthere := own_there hown2 (j * 3) us.toArray.size (by simp [hlen]; omega)
      have hone := hoG.one
      have hsize : (Tryz.prog.info? 31).map (·.size) = some us.toArray.size := by rw [List.size_toArray, hlen]; exact sizeNeed
      have Hfill := Lib.hid (own_fill hown2 hlt hlen ho2 hnd hne (hoG.lower (Nat.le_trans Hbel.out.size (Nat.le_refl _))) hnG (fun y hy hyG => by have h1 := (Ho.out.range y hy).2; have h2 := (hoG.range y hyG).1; omega) (fun y hy => by have h1 := (hoG.range y hy).1; have h2 := Hlb.out; omega) rfl)
      have Hbel2 := Lib.hid (Hbel.out.trans (hb2.mono Hbel.out.size))
      clear HC hoG hnG hb2 hown2 ho2 Ho hnd hne Hown Hbel q0 q1 q2
      go_wp2_with (first | (refine Go.wpList_store_mid rfl 31 _ _ rfl w.heap.size (j * 3) us.toArray rfl rfl hthere hsize hone ?_) | fail)
      have hf := Hfill.out
      rw [← Hr1.out] at hf
      have hbel3 : Below w.heap.size w (w2.setCells w.heap.size (j * 3) us) := Hbel2.out.grown hf.2.2.2.2 Hbel2.out.size (fun b hb => by injection hb with hb; omega)
      have HF := Lib.hid hf
      have Hbel3 := Lib.hid hbel3
      clear hf hbel3 Hfill hthere hone hsize
      go_wp2_with fail
      go_roundw
      case rel => exact ⟨j + 1, _, _, by omega, by go_num, HF.out.1, HF.out.2.1, HF.out.2.2.1, HF.out.2.2.2.1, Hbel3.out⟩
      case measure => simp [intOf]; omega
    · obtain rfl : j = l.length := by omega
      rw [List.take_of_length_le (Nat.le_refl _)] at ho
      have HR := Lib.hid (own_filled hown (by rw [flat_length' Need.row_length]) ho hnd hne)
      have Hbel := Lib.hid hbel
      clear hown ho hbel
      go_wp2_with fail
      go_ret
      exact ⟨_, rfl, HR.out, Hbel.out⟩
end Go.Proofs.YtjcfaepklakpkaaGreatDoor.ty
