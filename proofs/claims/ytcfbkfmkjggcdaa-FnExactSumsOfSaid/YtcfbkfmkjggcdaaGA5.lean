/- Merged: ToNeedS ToTolerance ToToleranceS ToPod EqStr EqNeed EqNeedS EqTolerance. -/
import Derived.Test.YtcfbkfmkjggcdaaGA4
import Derived.OwnWalk
import Derived.Deep.WholeRow
import Derived.Test.YtcfbkfmkjggcdaaRows
import Derived.ProofKit
import Derived.OpenShut
import Derived.Test.YtcfbkfmkjggcdaaGA2
import Derived.Test.YtcfbkfmkjggcdaaGA3
import Derived.Test.YtcfbkfmkjggcdaaGA1
import Derived.Test.YtcfbkfmkjggcdaaGA12
namespace Go.Proofs.Ytcfbkfmkjggcdaa.ty
open Go.ChangeShapes Go.WideShapes Go.ChangeAt Go.RowKit
set_option linter.unusedVariables false

theorem TryinfoNeed : (Try.prog.info? 84).map (fun i => (i.zero, i.size, i.bytes)) = some (some (.agg #[.string ⟨#[]⟩, .int .i64 0, .slice none 0 0]), 3, 48) := by kernel_rfl
set_option maxRecDepth 100000 in
theorem toNeedS (l : List Need) (f : Nat) (v : Value) (w : World) (h : Lies w f v (.sl 3 l.length (l.flatMap Need.row))) (hw : l.length + wsum Need.wt l ≤ 1048576) :
    Calls Try.prog 27 #[v] w fun e w' => ∃ v', e = .returned v' ∧ OwnRow w' w.heap.size 2 84 3 v' l.length (l.flatMap Need.row) ∧ Below w.heap.size w w' := by
  obtain ⟨A, c, rfl, hc1, hc2, f', rfl, hk⟩ := els_of Need.row_length h
  obtain ⟨i0, hi, hz0, hz1, hz2⟩ := info_parts TryinfoNeed
  unfold maxLen at hc2
  have Hk := Lib.hid hk
  have Hw := Lib.hid hw
  have hwl : l.length ≤ 1048576 := by omega
  clear h hk hw
  go_enter Try.func27, Try.ntmps27
  go_wp2_with (at_make; refine wpList_make_full _ rfl _ _ 30 rfl w.heap.size 84 i0 _ 3 Try.underlying30 hi hz0 hz1 .i64 .i64 (l.length : Int) (l.length : Int) l.length rfl rfl rfl rfl (by rw [hz2]; omega) (by unfold maxLen; omega) (by simp) ?_)
  intro w1 hown1 hg1
  have hb1 : Below w.heap.size w w1 := (Below.refl _ _).grown hg1 (Nat.le_refl _) (fun b hb => by cases hb)
  obtain ⟨xs, hown⟩ : ∃ xs : List Value, w1.ownsRow w.heap.size 84 3 (.slice (some ⟨w.heap.size, 0, none⟩) l.length l.length) l.length xs := ⟨_, hown1⟩
  have Hown := Lib.hid hown
  have Hb1 := Lib.hid hb1
  clear hown1 hown hb1 hg1
  go_wp2_with fail
  go_loopw [4] (fun i wr => ∃ (j : Nat) (xs : List Value) (F : List Nat), j ≤ l.length ∧ i = .int .i64 j ∧ wr.ownsRow w.heap.size 84 3 (.slice (some ⟨w.heap.size, 0, none⟩) l.length l.length) l.length xs ∧
    OwnS wr w.heap.size 2 (xs.take (j * 3)) ((l.take j).flatMap Need.row) F ∧ F.Nodup ∧ (∀ x ∈ F, x ≠ w.heap.size) ∧ Below w.heap.size w wr) (fun i _ => l.length - (intOf i).toNat)
  case atStart => exact ⟨0, xs, [], Nat.zero_le _, rfl, Hown.out, by simpa using OwnS.nil, List.nodup_nil, (fun x hx => by cases hx), Hb1.out⟩
  case round =>
    clear Hown Hb1 xs
    obtain ⟨j, xs, F, hj, rfl, hown, ho, hnd, hne, hbel⟩ := hrel
    by_cases hlt : j < l.length
    · obtain ⟨g, o, rfl, hg, us0, hus, hc, hls⟩ := (Hk.out.below hbel).get hlt
      have hwt : l[j].wt ≤ 1048576 := by have h1 := wsum_mem Need.wt hlt; have h2 := Hw.out; omega
      have HC := Lib.hid (toNeed l[j] _ us0 wr hls hwt)
      obtain ⟨A2, c2, rfl, hwf, k2, m2, l2⟩ := Need.opened hls
      have q0 : wr.cell? ⟨g, o + j * 3, none⟩ = some (.string l[j].key) := hc 0 _ rfl
      have q1 : wr.cell? ⟨g, o + j * 3 + 1, none⟩ = some (.int .i64 l[j].op) := hc 1 _ rfl
      have q2 : wr.cell? ⟨g, o + j * 3 + 2, none⟩ = some (.slice A2 l[j].values.length c2) := hc 2 _ rfl
      have hr1 : (l.take (j + 1)).flatMap Need.row = (l.take j).flatMap Need.row ++ l[j].row := by
        rw [List.take_succ_eq_append_getElem hlt, List.flatMap_append]; simp
      have Hr1 := Lib.hid hr1
      have Hown := Lib.hid hown
      have Ho := Lib.hid ho
      have Hbel := Lib.hid hbel
      have hlb : w.heap.size < wr.heap.size := (hown.lt w.heap.size rfl).2
      have Hlb := Lib.hid hlb
      have hrl := Need.row_length l[j]
      have Hrl := Lib.hid hrl
      clear hls hg hwf hr1 hown ho hbel hlb hus hc hwt hrl k2 m2 l2
      generalize l[j] = x at HC Hr1 Hrl q0 q1 q2
      go_wp2_with fail
      refine HC.out.mono ?_
      rintro e w2 ⟨us, G, rfl, hoG, hnG, hb2⟩
      have hlen : us.length = 3 := by rw [hoG.1, Hrl.out]
      have hown2 := own_below' Hown.out hb2
      have ho2 := Ho.out.below hb2
      have hthere := own_there hown2 (j * 3) us.toArray.size (by simp [hlen]; omega)
      have hone := hoG.one
      have hsize : (Try.prog.info? 84).map (·.size) = some us.toArray.size := by rw [List.size_toArray, hlen]; exact sizeNeed
      have Hfill := Lib.hid (own_fill hown2 hlt hlen ho2 hnd hne (hoG.lower (Nat.le_trans Hbel.out.size (Nat.le_refl _))) hnG (fun y hy hyG => by have h1 := (Ho.out.range y hy).2; have h2 := (hoG.range y hyG).1; omega) (fun y hy => by have h1 := (hoG.range y hy).1; have h2 := Hlb.out; omega) rfl)
      have Hbel2 := Lib.hid (Hbel.out.trans (hb2.mono Hbel.out.size))
      clear HC hoG hnG hb2 hown2 ho2 Ho hnd hne Hown Hbel q0 q1 q2
      go_wp2_with (first | (refine Go.wpList_store_mid rfl 84 _ _ rfl w.heap.size (j * 3) us.toArray rfl rfl hthere hsize hone ?_) | fail)
      have hf := Hfill.out
      rw [← Hr1.out] at hf
      have hbel3 : Below w.heap.size w (w2.setCells w.heap.size (j * 3) us) := Hbel2.out.grown hf.2.2.2.2 Hbel2.out.size (fun b hb => by injection hb with hb; omega)
      have HF := Lib.hid hf
      have Hbel3 := Lib.hid hbel3
      clear hf hbel3 Hfill hthere hone hsize
      go_wp2_with fail
      go_roundw
      case rel => exact ⟨j + 1, _, _, by omega, by go_num, HF.out.1, HF.out.2.1, HF.out.2.2.1, HF.out.2.2.2.1, Hbel3.out⟩
      case measure => simp [intOf]; omega
    · obtain rfl : j = l.length := by omega
      rw [List.take_of_length_le (Nat.le_refl _)] at ho
      have HR := Lib.hid (own_filled hown (by rw [flat_length' Need.row_length]) ho hnd hne)
      have Hbel := Lib.hid hbel
      clear hown ho hbel
      go_wp2_with fail
      go_ret
      exact ⟨_, rfl, HR.out, Hbel.out⟩
end Go.Proofs.Ytcfbkfmkjggcdaa.ty
namespace Go.Proofs.Ytcfbkfmkjggcdaa.ty
open Go.ChangeShapes Go.WideShapes Go.ChangeAt Go.RowKit
set_option linter.unusedVariables false

theorem sizeTolerance : (Try.prog.info? 60).map (·.size) = some 4 := by kernel_rfl
theorem toTolerance (x : Tolerance) (w : World) (hx : x.Wf) :
    Calls Try.prog 47 #[.agg #[.string x.key, .bool x.equal, .string x.value, .int .i64 x.effect]] w fun e w' => e = .returned (.agg #[.string x.key, .bool x.equal, .string x.value, .int .i64 x.effect]) ∧ Below w.heap.size w w' := by
  obtain ⟨a0, a1, a2, a3⟩ := x
  clear hx
  simp only
  have Hb : Hid (∀ (a b c : Obj), Below w.heap.size w (((w.alloc a).alloc b).alloc c)) := fun a b c => (((Below.refl _ _).alloc (Nat.le_refl _) a).alloc (by simp) b).alloc (by simp <;> omega) c
  go_enter Try.func47, Try.ntmps47
  go_wp2_with fail
  refine bodyPost_ret (v := .agg #[.string a0, .bool a1, .string a2, .int .i64 a3]) ?_ rfl ⟨rfl, Hb.out _ _ _⟩
  have hrow : (((w.alloc (.cells #[.string a0, .bool a1, .string a2, .int .i64 a3] 81)).alloc (.cells #[.string a0, .bool a1, .string a2, .int .i64 a3] 60)).alloc (.cells #[.string a0, .bool a1, .string a2, .int .i64 a3] 60)).heap[w.heap.size + 1]? = some (.cells #[.string a0, .bool a1, .string a2, .int .i64 a3] 60 (0, 0)) := by
    rw [Below.heap_alloc _ _ _ (by simp)]
    have h := heap_alloc_new (w.alloc (.cells #[.string a0, .bool a1, .string a2, .int .i64 a3] 81)) (.cells #[.string a0, .bool a1, .string a2, .int .i64 a3] 60)
    simpa using h
  exact results_cell_row rfl _ _ (w.heap.size + 1) _ #[.string a0, .bool a1, .string a2, .int .i64 a3] (0, 0) _ rfl hrow Try.underlying60 rfl sizeTolerance
end Go.Proofs.Ytcfbkfmkjggcdaa.ty
namespace Go.Proofs.Ytcfbkfmkjggcdaa.ty
open Go.ChangeShapes Go.WideShapes Go.ChangeAt Go.RowKit
set_option linter.unusedVariables false

theorem TryinfoTolerance : (Try.prog.info? 60).map (fun i => (i.zero, i.size, i.bytes)) = some (some (.agg #[.string ⟨#[]⟩, .bool false, .string ⟨#[]⟩, .int .i64 0]), 4, 48) := by kernel_rfl
set_option maxRecDepth 100000 in
theorem toToleranceS (l : List Tolerance) (f : Nat) (v : Value) (w : World) (h : Lies w f v (.sl 4 l.length (l.flatMap Tolerance.row))) (hw : l.length ≤ 1048576) :
    Calls Try.prog 28 #[v] w fun e w' => ∃ v', e = .returned v' ∧ OwnRow w' w.heap.size 1 60 4 v' l.length (l.flatMap Tolerance.row) ∧ Below w.heap.size w w' := by
  obtain ⟨A, c, rfl, hc1, hc2, f', rfl, hk⟩ := els_of Tolerance.row_length h
  obtain ⟨i0, hi, hz0, hz1, hz2⟩ := info_parts TryinfoTolerance
  unfold maxLen at hc2
  have Hk := Lib.hid hk
  clear h hk
  go_enter Try.func28, Try.ntmps28
  go_wp2_with (at_make; refine wpList_make_full _ rfl _ _ 31 rfl w.heap.size 60 i0 _ 4 Try.underlying31 hi hz0 hz1 .i64 .i64 (l.length : Int) (l.length : Int) l.length rfl rfl rfl rfl (by rw [hz2]; omega) (by unfold maxLen; omega) (by simp) ?_)
  intro w1 hown1 hg1
  have hb1 : Below w.heap.size w w1 := (Below.refl _ _).grown hg1 (Nat.le_refl _) (fun b hb => by cases hb)
  obtain ⟨xs, hown⟩ : ∃ xs : List Value, w1.ownsRow w.heap.size 60 4 (.slice (some ⟨w.heap.size, 0, none⟩) l.length l.length) l.length xs := ⟨_, hown1⟩
  have Hown := Lib.hid hown
  have Hb1 := Lib.hid hb1
  clear hown1 hown hb1 hg1
  go_wp2_with fail
  go_loopw [4] (fun i wr => ∃ (j : Nat) (xs : List Value) (F : List Nat), j ≤ l.length ∧ i = .int .i64 j ∧ wr.ownsRow w.heap.size 60 4 (.slice (some ⟨w.heap.size, 0, none⟩) l.length l.length) l.length xs ∧
    OwnS wr w.heap.size 1 (xs.take (j * 4)) ((l.take j).flatMap Tolerance.row) F ∧ F.Nodup ∧ (∀ x ∈ F, x ≠ w.heap.size) ∧ Below w.heap.size w wr) (fun i _ => l.length - (intOf i).toNat)
  case atStart => exact ⟨0, xs, [], Nat.zero_le _, rfl, Hown.out, by simpa using OwnS.nil, List.nodup_nil, (fun x hx => by cases hx), Hb1.out⟩
  case round =>
    clear Hown Hb1 xs
    obtain ⟨j, xs, F, hj, rfl, hown, ho, hnd, hne, hbel⟩ := hrel
    by_cases hlt : j < l.length
    · obtain ⟨g, o, rfl, hg, us, hus, hc, hls⟩ := (Hk.out.below hbel).get hlt
      obtain ⟨rfl, hwf⟩ := Tolerance.opened hls
      have q0 : wr.cell? ⟨g, o + j * 4, none⟩ = some (.string l[j].key) := hc 0 _ rfl
      have q1 : wr.cell? ⟨g, o + j * 4 + 1, none⟩ = some (.bool l[j].equal) := hc 1 _ rfl
      have q2 : wr.cell? ⟨g, o + j * 4 + 2, none⟩ = some (.string l[j].value) := hc 2 _ rfl
      have q3 : wr.cell? ⟨g, o + j * 4 + 3, none⟩ = some (.int .i64 l[j].effect) := hc 3 _ rfl
      have hr1 : (l.take (j + 1)).flatMap Tolerance.row = (l.take j).flatMap Tolerance.row ++ l[j].row := by
        rw [List.take_succ_eq_append_getElem hlt, List.flatMap_append]; simp
      have Hr1 := Lib.hid hr1
      have HC := Lib.hid (toTolerance l[j] wr hwf)
      have Hwf := Lib.hid hwf
      have Hown := Lib.hid hown
      have Ho := Lib.hid ho
      have Hbel := Lib.hid hbel
      have hlb : w.heap.size < wr.heap.size := (hown.lt w.heap.size rfl).2
      have Hlb := Lib.hid hlb
      clear hls hg hwf hr1 hown ho hbel hlb hus hc
      generalize l[j] = x at HC Hr1 Hwf q0 q1 q2 q3
      go_wp2_with fail
      refine HC.out.mono ?_
      rintro e w2 ⟨rfl, hb2⟩
      have hown2 := own_below' Hown.out hb2
      have ho2 := Ho.out.below hb2
      obtain ⟨us, hus⟩ : ∃ us : List Value, us = [.string x.key, .bool x.equal, .string x.value, .int .i64 x.effect] := ⟨_, rfl⟩
      have hlen : us.length = 4 := by rw [hus]; rfl
      have hthere := own_there hown2 (j * 4) us.toArray.size (by simp [hlen]; omega)
      have hone : us.toArray.all (·.oneCell') = true := by rw [hus]; simp [Value.oneCell']
      have hsize : (Try.prog.info? 60).map (·.size) = some us.toArray.size := by rw [List.size_toArray, hlen]; exact sizeTolerance
      have hoG : OwnS w2 w.heap.size 1 us x.row [] := by rw [hus]; exact Tolerance.owned Hwf.out
      have Hfill := Lib.hid (own_fill hown2 hlt hlen ho2 hnd hne hoG List.nodup_nil (fun y hy hyG => by cases hyG) (fun y hy => by cases hy) rfl)
      have Hbel2 := Lib.hid (Hbel.out.trans (hb2.mono Hbel.out.size))
      have Hus := Lib.hid hus
      clear HC hoG hb2 hown2 ho2 Ho hnd hne Hown Hbel q0 q1 q2 q3
      rw [show (Value.agg #[.string x.key, .bool x.equal, .string x.value, .int .i64 x.effect]) = .agg us.toArray by rw [hus]]
      clear hus
      go_wp2_with (first | (refine Go.wpList_store_mid rfl 60 _ _ rfl w.heap.size (j * 4) us.toArray rfl rfl hthere hsize hone ?_) | fail)
      have hf := Hfill.out
      rw [← Hr1.out] at hf
      have hbel3 : Below w.heap.size w (w2.setCells w.heap.size (j * 4) us) := Hbel2.out.grown hf.2.2.2.2 Hbel2.out.size (fun b hb => by injection hb with hb; omega)
      have HF := Lib.hid hf
      have Hbel3 := Lib.hid hbel3
      clear hf hbel3 Hfill hthere hone hsize
      go_wp2_with fail
      go_roundw
      case rel => exact ⟨j + 1, _, _, by omega, by go_num, HF.out.1, HF.out.2.1, HF.out.2.2.1, HF.out.2.2.2.1, Hbel3.out⟩
      case measure => simp [intOf]; omega
    · obtain rfl : j = l.length := by omega
      rw [List.take_of_length_le (Nat.le_refl _)] at ho
      have HR := Lib.hid (own_filled hown (by rw [flat_length' Tolerance.row_length]) ho hnd hne)
      have Hbel := Lib.hid hbel
      clear hown ho hbel
      go_wp2_with fail
      go_ret
      exact ⟨_, rfl, HR.out, Hbel.out⟩
end Go.Proofs.Ytcfbkfmkjggcdaa.ty
namespace Go.Proofs.Ytcfbkfmkjggcdaa.ty
open Go.ChangeShapes Go.WideShapes Go.ChangeAt Go.RowKit
set_option linter.unusedVariables false

theorem sizePod : (Try.prog.info? 33).map (·.size) = some 7 := by kernel_rfl
set_option maxRecDepth 100000 in
set_option maxHeartbeats 16000000 in
theorem toPod (x : Pod) (f : Nat) (vs : List Value) (w : World) (h : LiesS w f vs x.row) (hw : x.wt ≤ 1048576) :
    Calls Try.prog 8 #[.agg vs.toArray] w fun e w' => AggOut w 3 x.row e w' := by
  obtain ⟨a0, a1, a2, a3, a4, a5, a6⟩ := x
  obtain ⟨A1, c1, A5, c5, A6, c6, rfl, hwf, k1, m1, l1, k5, m5, l5, k6, m6, l6⟩ := Pod.opened h
  unfold Pod.wt at hw
  simp only at hw hwf k1 m1 l1 k5 m5 l5 k6 m6 l6
  obtain ⟨w1, hw1⟩ : ∃ w1, w1 = ((w.alloc (.cells #[.string a0, .slice A1 a1.length c1, .int .i64 a2, .int .i64 a3, .int .i64 a4, .slice A5 a5.length c5, .slice A6 a6.length c6] 26)).alloc (.cells #[.string ⟨#[]⟩, .slice none 0 0, .int .i64 0, .int .i64 0, .int .i64 0, .slice none 0 0, .slice none 0 0] 33)).alloc (.cells #[.string a0, .slice none 0 0, .int .i64 0, .int .i64 0, .int .i64 0, .slice none 0 0, .slice none 0 0] 33) := ⟨_, rfl⟩
  have S0 := Lib.hid (show St3 26 33 w [.string a0, .slice A1 a1.length c1, .int .i64 a2, .int .i64 a3, .int .i64 a4, .slice A5 a5.length c5, .slice A6 a6.length c6] [.string ⟨#[]⟩, .slice none 0 0, .int .i64 0, .int .i64 0, .int .i64 0, .slice none 0 0, .slice none 0 0] [.string a0, .slice none 0 0, .int .i64 0, .int .i64 0, .int .i64 0, .slice none 0 0, .slice none 0 0] w1 by rw [hw1]; exact St3.new)
  have T1 := Lib.hid (fun w1 (hb : Below w.heap.size w w1) => toLabelS a1 f (.slice A1 a1.length c1) w1 (l1.below hb) (by omega))
  have T5 := Lib.hid (fun w1 (hb : Below w.heap.size w w1) => toNeedS a5 f (.slice A5 a5.length c5) w1 (l5.below hb) (by omega))
  have T6 := Lib.hid (fun w1 (hb : Below w.heap.size w w1) => toToleranceS a6 f (.slice A6 a6.length c6) w1 (l6.below hb) (by omega))
  have Hwf := Lib.hid hwf
  have Hw1 := Lib.hid hw1
  clear h hw hwf hw1 k1 m1 l1 k5 m5 l5 k6 m6 l6
  go_enter Try.func8, Try.ntmps8
  go_wp2_with fail
  rw [← Hw1.out]
  clear Hw1
  refine (T1.out _ S0.out.bel).mono ?_
  rintro e y1 ⟨v1, rfl, r1, b1⟩
  obtain ⟨B1, d1, rfl⟩ := r1.is_slice
  obtain ⟨F1, o1, n1, g1⟩ := r1.own
  have O1_0 : Og y1 w1.heap.size y1.heap.size 2 (.slice B1 a1.length d1) (.sl 2 a1.length (a1.flatMap Label.row)) F1 := ⟨o1, n1, g1⟩
  have Hlt1 := Lib.hid S0.out.lt
  have hlt1 := S0.out.lt
  have Hs1 := Lib.hid (show w1.heap.size ≤ y1.heap.size from b1.size)
  have S1_0 := S0.out.call b1
  have p1_0 : (y1).cell? ⟨w.heap.size + 2, 1, none⟩ = some (.slice none 0 0) := S1_0.k2.cell 1 _ rfl
  have f1_0 := RowE.frozen S1_0.k2 1
  have S1_1 : St3 26 33 w [.string a0, .slice A1 a1.length c1, .int .i64 a2, .int .i64 a3, .int .i64 a4, .slice A5 a5.length c5, .slice A6 a6.length c6] [.string ⟨#[]⟩, .slice none 0 0, .int .i64 0, .int .i64 0, .int .i64 0, .slice none 0 0, .slice none 0 0] [.string a0, .slice B1 a1.length d1, .int .i64 0, .int .i64 0, .int .i64 0, .slice none 0 0, .slice none 0 0] ((y1).setCell ⟨w.heap.size + 2, 1, none⟩ (.slice B1 a1.length d1)) := S1_0.put 1 (.slice B1 a1.length d1)
  have O1_1 := Og.put (j := 1) (u := .slice B1 a1.length d1) O1_0 (show w.heap.size + 2 < _ by omega)
  have p1_1 : ((y1).setCell ⟨w.heap.size + 2, 1, none⟩ (.slice B1 a1.length d1)).cell? ⟨w.heap.size + 2, 2, none⟩ = some (.int .i64 0) := S1_1.k2.cell 2 _ rfl
  have f1_1 := RowE.frozen S1_1.k2 2
  have q1_1 : ((y1).setCell ⟨w.heap.size + 2, 1, none⟩ (.slice B1 a1.length d1)).cell? ⟨w.heap.size, 2, none⟩ = some (.int .i64 a2) := S1_1.k0.cell 2 _ rfl
  have S1_2 : St3 26 33 w [.string a0, .slice A1 a1.length c1, .int .i64 a2, .int .i64 a3, .int .i64 a4, .slice A5 a5.length c5, .slice A6 a6.length c6] [.string ⟨#[]⟩, .slice none 0 0, .int .i64 0, .int .i64 0, .int .i64 0, .slice none 0 0, .slice none 0 0] [.string a0, .slice B1 a1.length d1, .int .i64 a2, .int .i64 0, .int .i64 0, .slice none 0 0, .slice none 0 0] (((y1).setCell ⟨w.heap.size + 2, 1, none⟩ (.slice B1 a1.length d1)).setCell ⟨w.heap.size + 2, 2, none⟩ (.int .i64 a2)) := S1_1.put 2 (.int .i64 a2)
  have O1_2 := Og.put (j := 2) (u := .int .i64 a2) O1_1 (show w.heap.size + 2 < _ by omega)
  have p1_2 : (((y1).setCell ⟨w.heap.size + 2, 1, none⟩ (.slice B1 a1.length d1)).setCell ⟨w.heap.size + 2, 2, none⟩ (.int .i64 a2)).cell? ⟨w.heap.size + 2, 3, none⟩ = some (.int .i64 0) := S1_2.k2.cell 3 _ rfl
  have f1_2 := RowE.frozen S1_2.k2 3
  have q1_2 : (((y1).setCell ⟨w.heap.size + 2, 1, none⟩ (.slice B1 a1.length d1)).setCell ⟨w.heap.size + 2, 2, none⟩ (.int .i64 a2)).cell? ⟨w.heap.size, 3, none⟩ = some (.int .i64 a3) := S1_2.k0.cell 3 _ rfl
  have S1_3 : St3 26 33 w [.string a0, .slice A1 a1.length c1, .int .i64 a2, .int .i64 a3, .int .i64 a4, .slice A5 a5.length c5, .slice A6 a6.length c6] [.string ⟨#[]⟩, .slice none 0 0, .int .i64 0, .int .i64 0, .int .i64 0, .slice none 0 0, .slice none 0 0] [.string a0, .slice B1 a1.length d1, .int .i64 a2, .int .i64 a3, .int .i64 0, .slice none 0 0, .slice none 0 0] ((((y1).setCell ⟨w.heap.size + 2, 1, none⟩ (.slice B1 a1.length d1)).setCell ⟨w.heap.size + 2, 2, none⟩ (.int .i64 a2)).setCell ⟨w.heap.size + 2, 3, none⟩ (.int .i64 a3)) := S1_2.put 3 (.int .i64 a3)
  have O1_3 := Og.put (j := 3) (u := .int .i64 a3) O1_2 (show w.heap.size + 2 < _ by omega)
  have p1_3 : ((((y1).setCell ⟨w.heap.size + 2, 1, none⟩ (.slice B1 a1.length d1)).setCell ⟨w.heap.size + 2, 2, none⟩ (.int .i64 a2)).setCell ⟨w.heap.size + 2, 3, none⟩ (.int .i64 a3)).cell? ⟨w.heap.size + 2, 4, none⟩ = some (.int .i64 0) := S1_3.k2.cell 4 _ rfl
  have f1_3 := RowE.frozen S1_3.k2 4
  have q1_3 : ((((y1).setCell ⟨w.heap.size + 2, 1, none⟩ (.slice B1 a1.length d1)).setCell ⟨w.heap.size + 2, 2, none⟩ (.int .i64 a2)).setCell ⟨w.heap.size + 2, 3, none⟩ (.int .i64 a3)).cell? ⟨w.heap.size, 4, none⟩ = some (.int .i64 a4) := S1_3.k0.cell 4 _ rfl
  have S1_4 : St3 26 33 w [.string a0, .slice A1 a1.length c1, .int .i64 a2, .int .i64 a3, .int .i64 a4, .slice A5 a5.length c5, .slice A6 a6.length c6] [.string ⟨#[]⟩, .slice none 0 0, .int .i64 0, .int .i64 0, .int .i64 0, .slice none 0 0, .slice none 0 0] [.string a0, .slice B1 a1.length d1, .int .i64 a2, .int .i64 a3, .int .i64 a4, .slice none 0 0, .slice none 0 0] (((((y1).setCell ⟨w.heap.size + 2, 1, none⟩ (.slice B1 a1.length d1)).setCell ⟨w.heap.size + 2, 2, none⟩ (.int .i64 a2)).setCell ⟨w.heap.size + 2, 3, none⟩ (.int .i64 a3)).setCell ⟨w.heap.size + 2, 4, none⟩ (.int .i64 a4)) := S1_3.put 4 (.int .i64 a4)
  have O1_4 := Og.put (j := 4) (u := .int .i64 a4) O1_3 (show w.heap.size + 2 < _ by omega)
  have qn1 : (((((y1).setCell ⟨w.heap.size + 2, 1, none⟩ (.slice B1 a1.length d1)).setCell ⟨w.heap.size + 2, 2, none⟩ (.int .i64 a2)).setCell ⟨w.heap.size + 2, 3, none⟩ (.int .i64 a3)).setCell ⟨w.heap.size + 2, 4, none⟩ (.int .i64 a4)).cell? ⟨w.heap.size, 5, none⟩ = some (.slice A5 a5.length c5) := S1_4.k0.cell 5 _ rfl
  have hE1 : (((((y1).setCell ⟨w.heap.size + 2, 1, none⟩ (.slice B1 a1.length d1)).setCell ⟨w.heap.size + 2, 2, none⟩ (.int .i64 a2)).setCell ⟨w.heap.size + 2, 3, none⟩ (.int .i64 a3)).setCell ⟨w.heap.size + 2, 4, none⟩ (.int .i64 a4)).heap.size = y1.heap.size := by simp only [size_setCell]
  obtain ⟨z1, hz1⟩ : ∃ z, ((((y1).setCell ⟨w.heap.size + 2, 1, none⟩ (.slice B1 a1.length d1)).setCell ⟨w.heap.size + 2, 2, none⟩ (.int .i64 a2)).setCell ⟨w.heap.size + 2, 3, none⟩ (.int .i64 a3)).setCell ⟨w.heap.size + 2, 4, none⟩ (.int .i64 a4) = z := ⟨_, rfl⟩
  rw [hz1] at S1_4 O1_4 hE1 qn1
  have S1 := Lib.hid S1_4
  have O1at1 := Lib.hid O1_4
  have HE1 := Lib.hid hE1
  clear r1 b1 o1 n1 g1 hE1 hlt1 S1_4 O1_4 S1_0 O1_0 S1_1 O1_1 S1_2 O1_2 S1_3 O1_3
  clear S0
  go_wp2_with fail
  clear p1_0 f1_0 p1_1 f1_1 q1_1 p1_2 f1_2 q1_2 p1_3 f1_3 q1_3 qn1 hz1
  refine (T5.out _ S1.out.bel).mono ?_
  rintro e y5 ⟨v5, rfl, r5, b5⟩
  obtain ⟨B5, d5, rfl⟩ := r5.is_slice
  obtain ⟨F5, o5, n5, g5⟩ := r5.own
  have O5_0 : Og y5 z1.heap.size y5.heap.size 3 (.slice B5 a5.length d5) (.sl 3 a5.length (a5.flatMap Need.row)) F5 := ⟨o5, n5, g5⟩
  have Hlt5 := Lib.hid S1.out.lt
  have hlt5 := S1.out.lt
  have Hs5 := Lib.hid (show z1.heap.size ≤ y5.heap.size from b5.size)
  have S5_0 := S1.out.call b5
  have O1_5_0 := O1at1.out.call b5
  have p5_0 : (y5).cell? ⟨w.heap.size + 2, 5, none⟩ = some (.slice none 0 0) := S5_0.k2.cell 5 _ rfl
  have f5_0 := RowE.frozen S5_0.k2 5
  have S5_1 : St3 26 33 w [.string a0, .slice A1 a1.length c1, .int .i64 a2, .int .i64 a3, .int .i64 a4, .slice A5 a5.length c5, .slice A6 a6.length c6] [.string ⟨#[]⟩, .slice none 0 0, .int .i64 0, .int .i64 0, .int .i64 0, .slice none 0 0, .slice none 0 0] [.string a0, .slice B1 a1.length d1, .int .i64 a2, .int .i64 a3, .int .i64 a4, .slice B5 a5.length d5, .slice none 0 0] ((y5).setCell ⟨w.heap.size + 2, 5, none⟩ (.slice B5 a5.length d5)) := S5_0.put 5 (.slice B5 a5.length d5)
  have O5_1 := Og.put (j := 5) (u := .slice B5 a5.length d5) O5_0 (show w.heap.size + 2 < _ by omega)
  have O1_5_1 := Og.put (j := 5) (u := .slice B5 a5.length d5) O1_5_0 (show w.heap.size + 2 < _ by have := Hlt1.out; omega)
  have qn5 : ((y5).setCell ⟨w.heap.size + 2, 5, none⟩ (.slice B5 a5.length d5)).cell? ⟨w.heap.size, 6, none⟩ = some (.slice A6 a6.length c6) := S5_1.k0.cell 6 _ rfl
  have hE5 : ((y5).setCell ⟨w.heap.size + 2, 5, none⟩ (.slice B5 a5.length d5)).heap.size = y5.heap.size := by simp only [size_setCell]
  obtain ⟨z5, hz5⟩ : ∃ z, (y5).setCell ⟨w.heap.size + 2, 5, none⟩ (.slice B5 a5.length d5) = z := ⟨_, rfl⟩
  rw [hz5] at S5_1 O5_1 O1_5_1 hE5 qn5
  have S5 := Lib.hid S5_1
  have O5at5 := Lib.hid O5_1
  have O1at5 := Lib.hid O1_5_1
  have HE5 := Lib.hid hE5
  clear r5 b5 o5 n5 g5 hE5 hlt5 S5_1 O5_1 O1_5_1 S5_0 O5_0 O1_5_0
  clear S1 O1at1
  go_wp2_with fail
  clear p5_0 f5_0 qn5 hz5
  refine (T6.out _ S5.out.bel).mono ?_
  rintro e y6 ⟨v6, rfl, r6, b6⟩
  obtain ⟨B6, d6, rfl⟩ := r6.is_slice
  obtain ⟨F6, o6, n6, g6⟩ := r6.own
  have O6_0 : Og y6 z5.heap.size y6.heap.size 2 (.slice B6 a6.length d6) (.sl 4 a6.length (a6.flatMap Tolerance.row)) F6 := ⟨o6, n6, g6⟩
  have Hlt6 := Lib.hid S5.out.lt
  have hlt6 := S5.out.lt
  have Hs6 := Lib.hid (show z5.heap.size ≤ y6.heap.size from b6.size)
  have S6_0 := S5.out.call b6
  have O5_6_0 := O5at5.out.call b6
  have O1_6_0 := O1at5.out.call b6
  have p6_0 : (y6).cell? ⟨w.heap.size + 2, 6, none⟩ = some (.slice none 0 0) := S6_0.k2.cell 6 _ rfl
  have f6_0 := RowE.frozen S6_0.k2 6
  have S6_1 : St3 26 33 w [.string a0, .slice A1 a1.length c1, .int .i64 a2, .int .i64 a3, .int .i64 a4, .slice A5 a5.length c5, .slice A6 a6.length c6] [.string ⟨#[]⟩, .slice none 0 0, .int .i64 0, .int .i64 0, .int .i64 0, .slice none 0 0, .slice none 0 0] [.string a0, .slice B1 a1.length d1, .int .i64 a2, .int .i64 a3, .int .i64 a4, .slice B5 a5.length d5, .slice B6 a6.length d6] ((y6).setCell ⟨w.heap.size + 2, 6, none⟩ (.slice B6 a6.length d6)) := S6_0.put 6 (.slice B6 a6.length d6)
  have O6_1 := Og.put (j := 6) (u := .slice B6 a6.length d6) O6_0 (show w.heap.size + 2 < _ by omega)
  have O5_6_1 := Og.put (j := 6) (u := .slice B6 a6.length d6) O5_6_0 (show w.heap.size + 2 < _ by have := Hlt5.out; omega)
  have O1_6_1 := Og.put (j := 6) (u := .slice B6 a6.length d6) O1_6_0 (show w.heap.size + 2 < _ by have := Hlt1.out; omega)
  have hE6 : ((y6).setCell ⟨w.heap.size + 2, 6, none⟩ (.slice B6 a6.length d6)).heap.size = y6.heap.size := by simp only [size_setCell]
  obtain ⟨z6, hz6⟩ : ∃ z, (y6).setCell ⟨w.heap.size + 2, 6, none⟩ (.slice B6 a6.length d6) = z := ⟨_, rfl⟩
  rw [hz6] at S6_1 O6_1 O5_6_1 O1_6_1 hE6
  have S6 := Lib.hid S6_1
  have O6at6 := Lib.hid O6_1
  have O5at6 := Lib.hid O5_6_1
  have O1at6 := Lib.hid O1_6_1
  have HE6 := Lib.hid hE6
  clear r6 b6 o6 n6 g6 hE6 hlt6 S6_1 O6_1 O5_6_1 O1_6_1 S6_0 O6_0 O5_6_0 O1_6_0
  clear S5 O5at5 O1at5
  have h52 := S6.out.k2
  have h51 := S6.out.k1
  unfold RowE at h51 h52
  go_wp2_with (first | (refine wpList_load_row rfl 33 _ rfl (w.heap.size + 2) rfl 33 #[.string a0, .slice B1 a1.length d1, .int .i64 a2, .int .i64 a3, .int .i64 a4, .slice B5 a5.length d5, .slice B6 a6.length d6] (0, 0) _ h52 Try.underlying33 rfl sizePod ?_) | (refine wpList_store_row rfl 33 _ _ rfl (w.heap.size + 1) #[.string a0, .slice B1 a1.length d1, .int .i64 a2, .int .i64 a3, .int .i64 a4, .slice B5 a5.length d5, .slice B6 a6.length d6] rfl rfl 33 _ h51 sizePod rfl (by simp [Value.oneCell']) ?_) | fail)
  obtain ⟨F, ho, hnd, _⟩ := Pod.owned (x := ⟨a0, a1, a2, a3, a4, a5, a6⟩) (f := 2) (w := z6.setRow (w.heap.size + 1) #[.string a0, .slice B1 a1.length d1, .int .i64 a2, .int .i64 a3, .int .i64 a4, .slice B5 a5.length d5, .slice B6 a6.length d6]) Hwf.out (O1at6.out.done (f' := 3) (B' := w.heap.size) (c := #[.string a0, .slice B1 a1.length d1, .int .i64 a2, .int .i64 a3, .int .i64 a4, .slice B5 a5.length d5, .slice B6 a6.length d6]) (show w.heap.size + 1 < _ by have := HE1.out; have := Hs1.out; have := Hlt1.out; have := HE5.out; have := Hs5.out; have := Hlt5.out; have := HE6.out; have := Hs6.out; have := Hlt6.out; omega) (by have := HE1.out; have := Hs1.out; have := Hlt1.out; have := HE5.out; have := Hs5.out; have := Hlt5.out; have := HE6.out; have := Hs6.out; have := Hlt6.out; omega) (by decide)) (O5at6.out.done (f' := 3) (B' := w.heap.size) (c := #[.string a0, .slice B1 a1.length d1, .int .i64 a2, .int .i64 a3, .int .i64 a4, .slice B5 a5.length d5, .slice B6 a6.length d6]) (show w.heap.size + 1 < _ by have := HE1.out; have := Hs1.out; have := Hlt1.out; have := HE5.out; have := Hs5.out; have := Hlt5.out; have := HE6.out; have := Hs6.out; have := Hlt6.out; omega) (by have := HE1.out; have := Hs1.out; have := Hlt1.out; have := HE5.out; have := Hs5.out; have := Hlt5.out; have := HE6.out; have := Hs6.out; have := Hlt6.out; omega) (by decide)) (O6at6.out.done (f' := 3) (B' := w.heap.size) (c := #[.string a0, .slice B1 a1.length d1, .int .i64 a2, .int .i64 a3, .int .i64 a4, .slice B5 a5.length d5, .slice B6 a6.length d6]) (show w.heap.size + 1 < _ by have := HE1.out; have := Hs1.out; have := Hlt1.out; have := HE5.out; have := Hs5.out; have := Hlt5.out; have := HE6.out; have := Hs6.out; have := Hlt6.out; omega) (by have := HE1.out; have := Hs1.out; have := Hlt1.out; have := HE5.out; have := Hs5.out; have := Hlt5.out; have := HE6.out; have := Hs6.out; have := Hlt6.out; omega) (by decide)) O1at6.out.nod O5at6.out.nod O6at6.out.nod (O1at6.out.apart O5at6.out (by have := HE1.out; have := Hs1.out; have := Hlt1.out; have := HE5.out; have := Hs5.out; have := Hlt5.out; have := HE6.out; have := Hs6.out; have := Hlt6.out; omega)) (O1at6.out.apart O6at6.out (by have := HE1.out; have := Hs1.out; have := Hlt1.out; have := HE5.out; have := Hs5.out; have := Hlt5.out; have := HE6.out; have := Hs6.out; have := Hlt6.out; omega)) (O5at6.out.apart O6at6.out (by have := HE1.out; have := Hs1.out; have := Hlt1.out; have := HE5.out; have := Hs5.out; have := Hlt5.out; have := HE6.out; have := Hs6.out; have := Hlt6.out; omega))
  refine bodyPost_ret (v := .agg #[.string a0, .slice B1 a1.length d1, .int .i64 a2, .int .i64 a3, .int .i64 a4, .slice B5 a5.length d5, .slice B6 a6.length d6]) ?_ rfl ⟨_, F, rfl, ho, hnd, setRow_below S6.out.bel (by omega) _⟩
  exact results_cell_row rfl _ _ (w.heap.size + 1) _ _ (0, 0) _ rfl (setRow_at h51) Try.underlying33 rfl sizePod
end Go.Proofs.Ytcfbkfmkjggcdaa.ty
namespace Go.Proofs.Ytcfbkfmkjggcdaa.ty
open Go.ChangeShapes Go.WideShapes Go.ChangeAt Go.RowKit
set_option linter.unusedVariables false

theorem eqStr (l : List ByteArray) (f1 f2 : Nat) (v1 v2 : Value) (w : World) (h1 : Lies w f1 v1 (.sl 1 l.length (l.flatMap Str.row))) (h2 : Lies w f2 v2 (.sl 1 l.length (l.flatMap Str.row))) :
    Calls Try.prog 62 #[v1, v2] w fun e w' => e = .returned (.bool true) ∧ Below w.heap.size w w' := by
  obtain ⟨A1, c1, rfl, k1, m1, r1, _⟩ := Str.opened h1
  obtain ⟨A2, c2, rfl, k2, m2, r2, _⟩ := Str.opened h2
  refine (lawStr.eq_yes A1 A2 l.length c1 c2 l w (by omega) rfl r1 r2).mono ?_
  rintro e w1 ⟨rfl, n, rfl⟩
  exact ⟨rfl, below_drewN (Below.refl _ _) n⟩
end Go.Proofs.Ytcfbkfmkjggcdaa.ty
namespace Go.Proofs.Ytcfbkfmkjggcdaa.ty
open Go.ChangeShapes Go.WideShapes Go.ChangeAt Go.RowKit
set_option linter.unusedVariables false

theorem eqNeed (x : Need) (f1 f2 : Nat) (vs us : List Value) (w : World) (h1 : LiesS w f1 vs x.row) (h2 : LiesS w f2 us x.row) :
    Calls Try.prog 52 #[.agg vs.toArray, .agg us.toArray] w fun e w' => e = .returned (.bool true) ∧ Below w.heap.size w w' := by
  obtain ⟨a0, a1, a2⟩ := x
  obtain ⟨A2, c2, rfl, hwf, k2, m2, l2⟩ := Need.opened h1
  obtain ⟨B2, d2, rfl, hwf2, k2_, m2_, r2⟩ := Need.opened h2
  simp only at *
  have HB1 := Lib.hid (Box.new 84 w [.string a0, .int .i64 a1, .slice A2 a2.length c2])
  have HB2 := Lib.hid (HB1.out.below ((Below.refl _ _).alloc (Nat.le_refl _) (.cells #[.string a0, .int .i64 a1, .slice B2 a2.length d2] 84)))
  have HB3 := Lib.hid (Box.new 84 (w.alloc (.cells #[.string a0, .int .i64 a1, .slice A2 a2.length c2] 84)) [.string a0, .int .i64 a1, .slice B2 a2.length d2])
  have hsz : (w.alloc (.cells #[.string a0, .int .i64 a1, .slice A2 a2.length c2] 84)).heap.size = w.heap.size + 1 := by simp
  have E2 := Lib.hid (fun w1 (hb : Below w.heap.size w w1) => eqStr a2 f1 f2 (.slice A2 a2.length c2) (.slice B2 a2.length d2) w1 (l2.below hb) (r2.below hb))
  have p0 := HB2.out.cell (j := 0) rfl
  have p1 := HB2.out.cell (j := 1) rfl
  have p2 := HB2.out.cell (j := 2) rfl
  have q0 := HB3.out.cell (j := 0) rfl
  have q1 := HB3.out.cell (j := 1) rfl
  have q2 := HB3.out.cell (j := 2) rfl
  rw [hsz] at q0 q1 q2
  have hq := HB3.out.2
  rw [hsz] at hq
  have Hq := Lib.hid hq
  have Hp := Lib.hid HB2.out.2
  have Hbb := Lib.hid HB2.out.1
  clear h1 h2 hwf hwf2 HB1 HB2 HB3 hq hsz l2 r2 k2 m2 k2_ m2_
  go_enter Try.func52, Try.ntmps52
  go_wp2_with fail
  refine (E2.out _ Hbb.out).mono ?_
  rintro e y2 ⟨rfl, b2⟩
  have Hbb2 := Lib.hid (Hbb.out.trans (b2.mono Hbb.out.size))
  clear p0 p1 p2 q0 q1 q2
  clear b2
  go_wp2_with fail
  go_ret
  exact ⟨rfl, Hbb2.out⟩
end Go.Proofs.Ytcfbkfmkjggcdaa.ty
namespace Go.Proofs.Ytcfbkfmkjggcdaa.ty
open Go.ChangeShapes Go.WideShapes Go.ChangeAt Go.RowKit
set_option linter.unusedVariables false

set_option maxRecDepth 100000 in
theorem eqNeedS (l : List Need) (f1 f2 : Nat) (v1 v2 : Value) (w : World) (h1 : Lies w f1 v1 (.sl 3 l.length (l.flatMap Need.row))) (h2 : Lies w f2 v2 (.sl 3 l.length (l.flatMap Need.row))) :
    Calls Try.prog 33 #[v1, v2] w fun e w' => e = .returned (.bool true) ∧ Below w.heap.size w w' := by
  obtain ⟨A1, c1, rfl, hc1, hm1, f', rfl, hk1⟩ := els_of Need.row_length h1
  obtain ⟨A2, c2, rfl, hc2, hm2, f'', rfl, hk2⟩ := els_of Need.row_length h2
  unfold maxLen at hm1 hm2
  have Hk1 := Lib.hid hk1
  have Hk2 := Lib.hid hk2
  clear h1 h2 hk1 hk2
  go_enter Try.func33, Try.ntmps33
  go_wp2_with fail
  go_loopw [5] (fun i wr => ∃ (j : Nat), j ≤ l.length ∧ i = .int .i64 j ∧ Below w.heap.size w wr) (fun i _ => l.length - (intOf i).toNat)
  case atStart => exact ⟨0, Nat.zero_le _, rfl, Below.refl _ _⟩
  case round =>
    obtain ⟨j, hj, rfl, hbel⟩ := hrel
    by_cases hlt : j < l.length
    · obtain ⟨g1, o1, rfl, hg1, us, hus1, hcc1, hls1⟩ := (Hk1.out.below hbel).get hlt
      obtain ⟨g2, o2, rfl, hg2, us2, hus2, hcc2, hls2⟩ := (Hk2.out.below hbel).get hlt
      have HC := Lib.hid (fun w1 (hb : Below wr.heap.size wr w1) => eqNeed l[j] _ _ us us2 w1 (hls1.kept hb.block) (hls2.kept hb.block))
      obtain ⟨A2, c2, rfl, hwf, k2, m2, l2⟩ := Need.opened hls1
      obtain ⟨B2, d2, rfl, hwf2, k2_, m2_, r2⟩ := Need.opened hls2
      have q0 : wr.cell? ⟨g1, o1 + j * 3, none⟩ = some (.string l[j].key) := hcc1 0 _ rfl
      have q1 : wr.cell? ⟨g1, o1 + j * 3 + 1, none⟩ = some (.int .i64 l[j].op) := hcc1 1 _ rfl
      have q2 : wr.cell? ⟨g1, o1 + j * 3 + 2, none⟩ = some (.slice A2 l[j].values.length c2) := hcc1 2 _ rfl
      have s0 : wr.cell? ⟨g2, o2 + j * 3, none⟩ = some (.string l[j].key) := hcc2 0 _ rfl
      have s1 : wr.cell? ⟨g2, o2 + j * 3 + 1, none⟩ = some (.int .i64 l[j].op) := hcc2 1 _ rfl
      have s2 : wr.cell? ⟨g2, o2 + j * 3 + 2, none⟩ = some (.slice B2 l[j].values.length d2) := hcc2 2 _ rfl
      have Hbel := Lib.hid hbel
      clear hls1 hls2 hbel hg1 hg2 hus1 hus2 hcc1 hcc2 hwf hwf2 l2 r2 k2 m2 k2_ m2_
      generalize l[j] = x at HC q0 s0 q1 s1 q2 s2
      go_wp2_with fail
      go_region_law (go_simp; go_at_call 52; refine (HC.out _ (Below.refl _ _).drew).mono ?_; rintro e w1 ⟨rfl, hb1⟩)
      all_goals
        have hbel1 := Hbel.out.trans (((Below.refl _ _).drew.trans (hb1.mono (Nat.le_refl _))).mono Hbel.out.size)
        clear hb1 q0 s0 q1 s1 q2 s2
        go_wp2_with fail
        go_roundw
        case rel => exact ⟨j + 1, by omega, by go_num, hbel1⟩
        case measure => simp [intOf]; omega
    · obtain rfl : j = l.length := by omega
      have Hbel := Lib.hid hbel
      clear hbel
      go_wp2_with fail
      go_ret
      exact ⟨rfl, Hbel.out⟩
end Go.Proofs.Ytcfbkfmkjggcdaa.ty
namespace Go.Proofs.Ytcfbkfmkjggcdaa.ty
open Go.ChangeShapes Go.WideShapes Go.ChangeAt Go.RowKit
set_option linter.unusedVariables false

theorem eqTolerance (x : Tolerance) (w : World) :
    Calls Try.prog 53 #[.agg #[.string x.key, .bool x.equal, .string x.value, .int .i64 x.effect], .agg #[.string x.key, .bool x.equal, .string x.value, .int .i64 x.effect]] w fun e w' => e = .returned (.bool true) ∧ Below w.heap.size w w' := by
  obtain ⟨a0, a1, a2, a3⟩ := x
  simp only
  have Hb : Hid (∀ (a b : Obj), Below w.heap.size w ((w.alloc a).alloc b)) := fun a b => ((Below.refl _ _).alloc (Nat.le_refl _) a).alloc (by simp) b
  go_enter Try.func53, Try.ntmps53
  go_wp2_with fail
  go_ret
  exact ⟨rfl, Hb.out _ _⟩
end Go.Proofs.Ytcfbkfmkjggcdaa.ty
