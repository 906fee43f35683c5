/- Merged: ToTaintS ToHost EqTaint EqTaintS EqHost TaintI CmpTI. -/
import Derived.Test.YtcfbkfmkjggcdaaDoorGA17
import Derived.OwnWalk
import Derived.Deep.WholeRow
import Derived.Test.YtcfbkfmkjggcdaaDoorGA4
import Derived.Test.YtcfbkfmkjggcdaaDoorGA7
import Derived.Test.YtcfbkfmkjggcdaaDoorRows
import Derived.ProofKit
import Derived.OpenShut
import Derived.Test.YtcfbkfmkjggcdaaDoorGA8
import Derived.Test.YtcfbkfmkjggcdaaDoorGA5
import Derived.Test.YtcfbkfmkjggcdaaDoorGA6
namespace Go.Proofs.YtcfbkfmkjggcdaaDoor.ty
open Go.ChangeShapes Go.WideShapes Go.ChangeAt Go.RowKit
set_option linter.unusedVariables false

theorem TrydinfoTaint : (Tryd.prog.info? 100).map (fun i => (i.zero, i.size, i.bytes)) = some (some (.agg #[.string ⟨#[]⟩, .string ⟨#[]⟩, .int .i64 0]), 3, 40) := by kernel_rfl
set_option maxRecDepth 100000 in
theorem toTaintS (l : List Taint) (f : Nat) (v : Value) (w : World) (h : Lies w f v (.sl 3 l.length (l.flatMap Taint.row))) (hw : l.length ≤ 1048576) :
    Calls Tryd.prog 35 #[v] w fun e w' => ∃ v', e = .returned v' ∧ OwnRow w' w.heap.size 1 100 3 v' l.length (l.flatMap Taint.row) ∧ Below w.heap.size w w' := by
  obtain ⟨A, c, rfl, hc1, hc2, f', rfl, hk⟩ := els_of Taint.row_length h
  obtain ⟨i0, hi, hz0, hz1, hz2⟩ := info_parts TrydinfoTaint
  unfold maxLen at hc2
  have Hk := Lib.hid hk
  clear h hk
  go_enter Tryd.func35, Tryd.ntmps35
  go_wp2_with (at_make; refine wpList_make_full _ rfl _ _ 42 rfl w.heap.size 100 i0 _ 3 Tryd.underlying42 hi hz0 hz1 .i64 .i64 (l.length : Int) (l.length : Int) l.length rfl rfl rfl rfl (by rw [hz2]; omega) (by unfold maxLen; omega) (by simp) ?_)
  intro w1 hown1 hg1
  have hb1 : Below w.heap.size w w1 := (Below.refl _ _).grown hg1 (Nat.le_refl _) (fun b hb => by cases hb)
  obtain ⟨xs, hown⟩ : ∃ xs : List Value, w1.ownsRow w.heap.size 100 3 (.slice (some ⟨w.heap.size, 0, none⟩) l.length l.length) l.length xs := ⟨_, hown1⟩
  have Hown := Lib.hid hown
  have Hb1 := Lib.hid hb1
  clear hown1 hown hb1 hg1
  go_wp2_with fail
  go_loopw [4] (fun i wr => ∃ (j : Nat) (xs : List Value) (F : List Nat), j ≤ l.length ∧ i = .int .i64 j ∧ wr.ownsRow w.heap.size 100 3 (.slice (some ⟨w.heap.size, 0, none⟩) l.length l.length) l.length xs ∧
    OwnS wr w.heap.size 1 (xs.take (j * 3)) ((l.take j).flatMap Taint.row) F ∧ F.Nodup ∧ (∀ x ∈ F, x ≠ w.heap.size) ∧ Below w.heap.size w wr) (fun i _ => l.length - (intOf i).toNat)
  case atStart => exact ⟨0, xs, [], Nat.zero_le _, rfl, Hown.out, by simpa using OwnS.nil, List.nodup_nil, (fun x hx => by cases hx), Hb1.out⟩
  case round =>
    clear Hown Hb1 xs
    obtain ⟨j, xs, F, hj, rfl, hown, ho, hnd, hne, hbel⟩ := hrel
    by_cases hlt : j < l.length
    · obtain ⟨g, o, rfl, hg, us, hus, hc, hls⟩ := (Hk.out.below hbel).get hlt
      obtain ⟨rfl, hwf⟩ := Taint.opened hls
      have q0 : wr.cell? ⟨g, o + j * 3, none⟩ = some (.string l[j].key) := hc 0 _ rfl
      have q1 : wr.cell? ⟨g, o + j * 3 + 1, none⟩ = some (.string l[j].value) := hc 1 _ rfl
      have q2 : wr.cell? ⟨g, o + j * 3 + 2, none⟩ = some (.int .i64 l[j].effect) := hc 2 _ rfl
      have hr1 : (l.take (j + 1)).flatMap Taint.row = (l.take j).flatMap Taint.row ++ l[j].row := by
        rw [List.take_succ_eq_append_getElem hlt, List.flatMap_append]; simp
      have Hr1 := Lib.hid hr1
      have HC := Lib.hid (toTaint l[j] wr hwf)
      have Hwf := Lib.hid hwf
      have Hown := Lib.hid hown
      have Ho := Lib.hid ho
      have Hbel := Lib.hid hbel
      have hlb : w.heap.size < wr.heap.size := (hown.lt w.heap.size rfl).2
      have Hlb := Lib.hid hlb
      clear hls hg hwf hr1 hown ho hbel hlb hus hc
      generalize l[j] = x at HC Hr1 Hwf q0 q1 q2
      go_wp2_with fail
      refine HC.out.mono ?_
      rintro e w2 ⟨rfl, hb2⟩
      have hown2 := own_below' Hown.out hb2
      have ho2 := Ho.out.below hb2
      obtain ⟨us, hus⟩ : ∃ us : List Value, us = [.string x.key, .string x.value, .int .i64 x.effect] := ⟨_, rfl⟩
      have hlen : us.length = 3 := by rw [hus]; rfl
      have hthere := own_there hown2 (j * 3) us.toArray.size (by simp [hlen]; omega)
      have hone : us.toArray.all (·.oneCell') = true := by rw [hus]; simp [Value.oneCell']
      have hsize : (Tryd.prog.info? 100).map (·.size) = some us.toArray.size := by rw [List.size_toArray, hlen]; exact sizeTaint
      have hoG : OwnS w2 w.heap.size 1 us x.row [] := by rw [hus]; exact Taint.owned Hwf.out
      have Hfill := Lib.hid (own_fill hown2 hlt hlen ho2 hnd hne hoG List.nodup_nil (fun y hy hyG => by cases hyG) (fun y hy => by cases hy) rfl)
      have Hbel2 := Lib.hid (Hbel.out.trans (hb2.mono Hbel.out.size))
      have Hus := Lib.hid hus
      clear HC hoG hb2 hown2 ho2 Ho hnd hne Hown Hbel q0 q1 q2
      rw [show (Value.agg #[.string x.key, .string x.value, .int .i64 x.effect]) = .agg us.toArray by rw [hus]]
      clear hus
      go_wp2_with (first | (refine Go.wpList_store_mid rfl 100 _ _ rfl w.heap.size (j * 3) us.toArray rfl rfl hthere hsize hone ?_) | fail)
      have hf := Hfill.out
      rw [← Hr1.out] at hf
      have hbel3 : Below w.heap.size w (w2.setCells w.heap.size (j * 3) us) := Hbel2.out.grown hf.2.2.2.2 Hbel2.out.size (fun b hb => by injection hb with hb; omega)
      have HF := Lib.hid hf
      have Hbel3 := Lib.hid hbel3
      clear hf hbel3 Hfill hthere hone hsize
      go_wp2_with fail
      go_roundw
      case rel => exact ⟨j + 1, _, _, by omega, by go_num, HF.out.1, HF.out.2.1, HF.out.2.2.1, HF.out.2.2.2.1, Hbel3.out⟩
      case measure => simp [intOf]; omega
    · obtain rfl : j = l.length := by omega
      rw [List.take_of_length_le (Nat.le_refl _)] at ho
      have HR := Lib.hid (own_filled hown (by rw [flat_length' Taint.row_length]) ho hnd hne)
      have Hbel := Lib.hid hbel
      clear hown ho hbel
      go_wp2_with fail
      go_ret
      exact ⟨_, rfl, HR.out, Hbel.out⟩
end Go.Proofs.YtcfbkfmkjggcdaaDoor.ty
namespace Go.Proofs.YtcfbkfmkjggcdaaDoor.ty
open Go.ChangeShapes Go.WideShapes Go.ChangeAt Go.RowKit
set_option linter.unusedVariables false

theorem sizeHost : (Tryd.prog.info? 44).map (·.size) = some 6 := by kernel_rfl
set_option maxRecDepth 100000 in
set_option maxHeartbeats 16000000 in
theorem toHost (x : Host) (f : Nat) (vs : List Value) (w : World) (h : LiesS w f vs x.row) (hw : x.wt ≤ 1048576) :
    Calls Tryd.prog 12 #[.agg vs.toArray] w fun e w' => AggOut w 2 x.row e w' := by
  obtain ⟨a0, a1, a2, a3, a4, a5⟩ := x
  obtain ⟨A1, c1, A5, c5, rfl, hwf, k1, m1, l1, k5, m5, l5⟩ := Host.opened h
  unfold Host.wt at hw
  simp only at hw hwf k1 m1 l1 k5 m5 l5
  obtain ⟨w1, hw1⟩ : ∃ w1, w1 = ((w.alloc (.cells #[.string a0, .slice A1 a1.length c1, .int .i64 a2, .int .i64 a3, .int .i64 a4, .slice A5 a5.length c5] 39)).alloc (.cells #[.string ⟨#[]⟩, .slice none 0 0, .int .i64 0, .int .i64 0, .int .i64 0, .slice none 0 0] 44)).alloc (.cells #[.string a0, .slice none 0 0, .int .i64 0, .int .i64 0, .int .i64 0, .slice none 0 0] 44) := ⟨_, rfl⟩
  have S0 := Lib.hid (show St3 39 44 w [.string a0, .slice A1 a1.length c1, .int .i64 a2, .int .i64 a3, .int .i64 a4, .slice A5 a5.length c5] [.string ⟨#[]⟩, .slice none 0 0, .int .i64 0, .int .i64 0, .int .i64 0, .slice none 0 0] [.string a0, .slice none 0 0, .int .i64 0, .int .i64 0, .int .i64 0, .slice none 0 0] w1 by rw [hw1]; exact St3.new)
  have T1 := Lib.hid (fun w1 (hb : Below w.heap.size w w1) => toLabelS a1 f (.slice A1 a1.length c1) w1 (l1.below hb) (by omega))
  have T5 := Lib.hid (fun w1 (hb : Below w.heap.size w w1) => toTaintS a5 f (.slice A5 a5.length c5) w1 (l5.below hb) (by omega))
  have Hwf := Lib.hid hwf
  have Hw1 := Lib.hid hw1
  clear h hw hwf hw1 k1 m1 l1 k5 m5 l5
  go_enter Tryd.func12, Tryd.ntmps12
  go_wp2_with fail
  rw [← Hw1.out]
  clear Hw1
  refine (T1.out _ S0.out.bel).mono ?_
  rintro e y1 ⟨v1, rfl, r1, b1⟩
  obtain ⟨B1, d1, rfl⟩ := r1.is_slice
  obtain ⟨F1, o1, n1, g1⟩ := r1.own
  have O1_0 : Og y1 w1.heap.size y1.heap.size 2 (.slice B1 a1.length d1) (.sl 2 a1.length (a1.flatMap Label.row)) F1 := ⟨o1, n1, g1⟩
  have Hlt1 := Lib.hid S0.out.lt
  have hlt1 := S0.out.lt
  have Hs1 := Lib.hid (show w1.heap.size ≤ y1.heap.size from b1.size)
  have S1_0 := S0.out.call b1
  have p1_0 : (y1).cell? ⟨w.heap.size + 2, 1, none⟩ = some (.slice none 0 0) := S1_0.k2.cell 1 _ rfl
  have f1_0 := RowE.frozen S1_0.k2 1
  have S1_1 : St3 39 44 w [.string a0, .slice A1 a1.length c1, .int .i64 a2, .int .i64 a3, .int .i64 a4, .slice A5 a5.length c5] [.string ⟨#[]⟩, .slice none 0 0, .int .i64 0, .int .i64 0, .int .i64 0, .slice none 0 0] [.string a0, .slice B1 a1.length d1, .int .i64 0, .int .i64 0, .int .i64 0, .slice none 0 0] ((y1).setCell ⟨w.heap.size + 2, 1, none⟩ (.slice B1 a1.length d1)) := S1_0.put 1 (.slice B1 a1.length d1)
  have O1_1 := Og.put (j := 1) (u := .slice B1 a1.length d1) O1_0 (show w.heap.size + 2 < _ by omega)
  have p1_1 : ((y1).setCell ⟨w.heap.size + 2, 1, none⟩ (.slice B1 a1.length d1)).cell? ⟨w.heap.size + 2, 2, none⟩ = some (.int .i64 0) := S1_1.k2.cell 2 _ rfl
  have f1_1 := RowE.frozen S1_1.k2 2
  have q1_1 : ((y1).setCell ⟨w.heap.size + 2, 1, none⟩ (.slice B1 a1.length d1)).cell? ⟨w.heap.size, 2, none⟩ = some (.int .i64 a2) := S1_1.k0.cell 2 _ rfl
  have S1_2 : St3 39 44 w [.string a0, .slice A1 a1.length c1, .int .i64 a2, .int .i64 a3, .int .i64 a4, .slice A5 a5.length c5] [.string ⟨#[]⟩, .slice none 0 0, .int .i64 0, .int .i64 0, .int .i64 0, .slice none 0 0] [.string a0, .slice B1 a1.length d1, .int .i64 a2, .int .i64 0, .int .i64 0, .slice none 0 0] (((y1).setCell ⟨w.heap.size + 2, 1, none⟩ (.slice B1 a1.length d1)).setCell ⟨w.heap.size + 2, 2, none⟩ (.int .i64 a2)) := S1_1.put 2 (.int .i64 a2)
  have O1_2 := Og.put (j := 2) (u := .int .i64 a2) O1_1 (show w.heap.size + 2 < _ by omega)
  have p1_2 : (((y1).setCell ⟨w.heap.size + 2, 1, none⟩ (.slice B1 a1.length d1)).setCell ⟨w.heap.size + 2, 2, none⟩ (.int .i64 a2)).cell? ⟨w.heap.size + 2, 3, none⟩ = some (.int .i64 0) := S1_2.k2.cell 3 _ rfl
  have f1_2 := RowE.frozen S1_2.k2 3
  have q1_2 : (((y1).setCell ⟨w.heap.size + 2, 1, none⟩ (.slice B1 a1.length d1)).setCell ⟨w.heap.size + 2, 2, none⟩ (.int .i64 a2)).cell? ⟨w.heap.size, 3, none⟩ = some (.int .i64 a3) := S1_2.k0.cell 3 _ rfl
  have S1_3 : St3 39 44 w [.string a0, .slice A1 a1.length c1, .int .i64 a2, .int .i64 a3, .int .i64 a4, .slice A5 a5.length c5] [.string ⟨#[]⟩, .slice none 0 0, .int .i64 0, .int .i64 0, .int .i64 0, .slice none 0 0] [.string a0, .slice B1 a1.length d1, .int .i64 a2, .int .i64 a3, .int .i64 0, .slice none 0 0] ((((y1).setCell ⟨w.heap.size + 2, 1, none⟩ (.slice B1 a1.length d1)).setCell ⟨w.heap.size + 2, 2, none⟩ (.int .i64 a2)).setCell ⟨w.heap.size + 2, 3, none⟩ (.int .i64 a3)) := S1_2.put 3 (.int .i64 a3)
  have O1_3 := Og.put (j := 3) (u := .int .i64 a3) O1_2 (show w.heap.size + 2 < _ by omega)
  have p1_3 : ((((y1).setCell ⟨w.heap.size + 2, 1, none⟩ (.slice B1 a1.length d1)).setCell ⟨w.heap.size + 2, 2, none⟩ (.int .i64 a2)).setCell ⟨w.heap.size + 2, 3, none⟩ (.int .i64 a3)).cell? ⟨w.heap.size + 2, 4, none⟩ = some (.int .i64 0) := S1_3.k2.cell 4 _ rfl
  have f1_3 := RowE.frozen S1_3.k2 4
  have q1_3 : ((((y1).setCell ⟨w.heap.size + 2, 1, none⟩ (.slice B1 a1.length d1)).setCell ⟨w.heap.size + 2, 2, none⟩ (.int .i64 a2)).setCell ⟨w.heap.size + 2, 3, none⟩ (.int .i64 a3)).cell? ⟨w.heap.size, 4, none⟩ = some (.int .i64 a4) := S1_3.k0.cell 4 _ rfl
  have S1_4 : St3 39 44 w [.string a0, .slice A1 a1.length c1, .int .i64 a2, .int .i64 a3, .int .i64 a4, .slice A5 a5.length c5] [.string ⟨#[]⟩, .slice none 0 0, .int .i64 0, .int .i64 0, .int .i64 0, .slice none 0 0] [.string a0, .slice B1 a1.length d1, .int .i64 a2, .int .i64 a3, .int .i64 a4, .slice none 0 0] (((((y1).setCell ⟨w.heap.size + 2, 1, none⟩ (.slice B1 a1.length d1)).setCell ⟨w.heap.size + 2, 2, none⟩ (.int .i64 a2)).setCell ⟨w.heap.size + 2, 3, none⟩ (.int .i64 a3)).setCell ⟨w.heap.size + 2, 4, none⟩ (.int .i64 a4)) := S1_3.put 4 (.int .i64 a4)
  have O1_4 := Og.put (j := 4) (u := .int .i64 a4) O1_3 (show w.heap.size + 2 < _ by omega)
  have qn1 : (((((y1).setCell ⟨w.heap.size + 2, 1, none⟩ (.slice B1 a1.length d1)).setCell ⟨w.heap.size + 2, 2, none⟩ (.int .i64 a2)).setCell ⟨w.heap.size + 2, 3, none⟩ (.int .i64 a3)).setCell ⟨w.heap.size + 2, 4, none⟩ (.int .i64 a4)).cell? ⟨w.heap.size, 5, none⟩ = some (.slice A5 a5.length c5) := S1_4.k0.cell 5 _ rfl
  have hE1 : (((((y1).setCell ⟨w.heap.size + 2, 1, none⟩ (.slice B1 a1.length d1)).setCell ⟨w.heap.size + 2, 2, none⟩ (.int .i64 a2)).setCell ⟨w.heap.size + 2, 3, none⟩ (.int .i64 a3)).setCell ⟨w.heap.size + 2, 4, none⟩ (.int .i64 a4)).heap.size = y1.heap.size := by simp only [size_setCell]
  obtain ⟨z1, hz1⟩ : ∃ z, ((((y1).setCell ⟨w.heap.size + 2, 1, none⟩ (.slice B1 a1.length d1)).setCell ⟨w.heap.size + 2, 2, none⟩ (.int .i64 a2)).setCell ⟨w.heap.size + 2, 3, none⟩ (.int .i64 a3)).setCell ⟨w.heap.size + 2, 4, none⟩ (.int .i64 a4) = z := ⟨_, rfl⟩
  rw [hz1] at S1_4 O1_4 hE1 qn1
  have S1 := Lib.hid S1_4
  have O1at1 := Lib.hid O1_4
  have HE1 := Lib.hid hE1
  clear r1 b1 o1 n1 g1 hE1 hlt1 S1_4 O1_4 S1_0 O1_0 S1_1 O1_1 S1_2 O1_2 S1_3 O1_3
  clear S0
  go_wp2_with fail
  clear p1_0 f1_0 p1_1 f1_1 q1_1 p1_2 f1_2 q1_2 p1_3 f1_3 q1_3 qn1 hz1
  refine (T5.out _ S1.out.bel).mono ?_
  rintro e y5 ⟨v5, rfl, r5, b5⟩
  obtain ⟨B5, d5, rfl⟩ := r5.is_slice
  obtain ⟨F5, o5, n5, g5⟩ := r5.own
  have O5_0 : Og y5 z1.heap.size y5.heap.size 2 (.slice B5 a5.length d5) (.sl 3 a5.length (a5.flatMap Taint.row)) F5 := ⟨o5, n5, g5⟩
  have Hlt5 := Lib.hid S1.out.lt
  have hlt5 := S1.out.lt
  have Hs5 := Lib.hid (show z1.heap.size ≤ y5.heap.size from b5.size)
  have S5_0 := S1.out.call b5
  have O1_5_0 := O1at1.out.call b5
  have p5_0 : (y5).cell? ⟨w.heap.size + 2, 5, none⟩ = some (.slice none 0 0) := S5_0.k2.cell 5 _ rfl
  have f5_0 := RowE.frozen S5_0.k2 5
  have S5_1 : St3 39 44 w [.string a0, .slice A1 a1.length c1, .int .i64 a2, .int .i64 a3, .int .i64 a4, .slice A5 a5.length c5] [.string ⟨#[]⟩, .slice none 0 0, .int .i64 0, .int .i64 0, .int .i64 0, .slice none 0 0] [.string a0, .slice B1 a1.length d1, .int .i64 a2, .int .i64 a3, .int .i64 a4, .slice B5 a5.length d5] ((y5).setCell ⟨w.heap.size + 2, 5, none⟩ (.slice B5 a5.length d5)) := S5_0.put 5 (.slice B5 a5.length d5)
  have O5_1 := Og.put (j := 5) (u := .slice B5 a5.length d5) O5_0 (show w.heap.size + 2 < _ by omega)
  have O1_5_1 := Og.put (j := 5) (u := .slice B5 a5.length d5) O1_5_0 (show w.heap.size + 2 < _ by have := Hlt1.out; omega)
  have hE5 : ((y5).setCell ⟨w.heap.size + 2, 5, none⟩ (.slice B5 a5.length d5)).heap.size = y5.heap.size := by simp only [size_setCell]
  obtain ⟨z5, hz5⟩ : ∃ z, (y5).setCell ⟨w.heap.size + 2, 5, none⟩ (.slice B5 a5.length d5) = z := ⟨_, rfl⟩
  rw [hz5] at S5_1 O5_1 O1_5_1 hE5
  have S5 := Lib.hid S5_1
  have O5at5 := Lib.hid O5_1
  have O1at5 := Lib.hid O1_5_1
  have HE5 := Lib.hid hE5
  clear r5 b5 o5 n5 g5 hE5 hlt5 S5_1 O5_1 O1_5_1 S5_0 O5_0 O1_5_0
  clear S1 O1at1
  have h52 := S5.out.k2
  have h51 := S5.out.k1
  unfold RowE at h51 h52
  go_wp2_with (first | (refine wpList_load_row rfl 44 _ rfl (w.heap.size + 2) rfl 44 #[.string a0, .slice B1 a1.length d1, .int .i64 a2, .int .i64 a3, .int .i64 a4, .slice B5 a5.length d5] (0, 0) _ h52 Tryd.underlying44 rfl sizeHost ?_) | (refine wpList_store_row rfl 44 _ _ rfl (w.heap.size + 1) #[.string a0, .slice B1 a1.length d1, .int .i64 a2, .int .i64 a3, .int .i64 a4, .slice B5 a5.length d5] rfl rfl 44 _ h51 sizeHost rfl (by simp [Value.oneCell']) ?_) | fail)
  obtain ⟨F, ho, hnd, _⟩ := Host.owned (x := ⟨a0, a1, a2, a3, a4, a5⟩) (f := 1) (w := z5.setRow (w.heap.size + 1) #[.string a0, .slice B1 a1.length d1, .int .i64 a2, .int .i64 a3, .int .i64 a4, .slice B5 a5.length d5]) Hwf.out (O1at5.out.done (f' := 2) (B' := w.heap.size) (c := #[.string a0, .slice B1 a1.length d1, .int .i64 a2, .int .i64 a3, .int .i64 a4, .slice B5 a5.length d5]) (show w.heap.size + 1 < _ by have := HE1.out; have := Hs1.out; have := Hlt1.out; have := HE5.out; have := Hs5.out; have := Hlt5.out; omega) (by have := HE1.out; have := Hs1.out; have := Hlt1.out; have := HE5.out; have := Hs5.out; have := Hlt5.out; omega) (by decide)) (O5at5.out.done (f' := 2) (B' := w.heap.size) (c := #[.string a0, .slice B1 a1.length d1, .int .i64 a2, .int .i64 a3, .int .i64 a4, .slice B5 a5.length d5]) (show w.heap.size + 1 < _ by have := HE1.out; have := Hs1.out; have := Hlt1.out; have := HE5.out; have := Hs5.out; have := Hlt5.out; omega) (by have := HE1.out; have := Hs1.out; have := Hlt1.out; have := HE5.out; have := Hs5.out; have := Hlt5.out; omega) (by decide)) O1at5.out.nod O5at5.out.nod (O1at5.out.apart O5at5.out (by have := HE1.out; have := Hs1.out; have := Hlt1.out; have := HE5.out; have := Hs5.out; have := Hlt5.out; omega))
  refine bodyPost_ret (v := .agg #[.string a0, .slice B1 a1.length d1, .int .i64 a2, .int .i64 a3, .int .i64 a4, .slice B5 a5.length d5]) ?_ rfl ⟨_, F, rfl, ho, hnd, setRow_below S5.out.bel (by omega) _⟩
  exact results_cell_row rfl _ _ (w.heap.size + 1) _ _ (0, 0) _ rfl (setRow_at h51) Tryd.underlying44 rfl sizeHost
end Go.Proofs.YtcfbkfmkjggcdaaDoor.ty
namespace Go.Proofs.YtcfbkfmkjggcdaaDoor.ty
open Go.ChangeShapes Go.WideShapes Go.ChangeAt Go.RowKit
set_option linter.unusedVariables false

theorem eqTaint (x : Taint) (w : World) :
    Calls Tryd.prog 71 #[.agg #[.string x.key, .string x.value, .int .i64 x.effect], .agg #[.string x.key, .string x.value, .int .i64 x.effect]] w fun e w' => e = .returned (.bool true) ∧ Below w.heap.size w w' := by
  obtain ⟨a0, a1, a2⟩ := x
  simp only
  have Hb : Hid (∀ (a b : Obj), Below w.heap.size w ((w.alloc a).alloc b)) := fun a b => ((Below.refl _ _).alloc (Nat.le_refl _) a).alloc (by simp) b
  go_enter Tryd.func71, Tryd.ntmps71
  go_wp2_with fail
  go_ret
  exact ⟨rfl, Hb.out _ _⟩
end Go.Proofs.YtcfbkfmkjggcdaaDoor.ty
namespace Go.Proofs.YtcfbkfmkjggcdaaDoor.ty
open Go.ChangeShapes Go.WideShapes Go.ChangeAt Go.RowKit
set_option linter.unusedVariables false

set_option maxRecDepth 100000 in
theorem eqTaintS (l : List Taint) (f1 f2 : Nat) (v1 v2 : Value) (w : World) (h1 : Lies w f1 v1 (.sl 3 l.length (l.flatMap Taint.row))) (h2 : Lies w f2 v2 (.sl 3 l.length (l.flatMap Taint.row))) :
    Calls Tryd.prog 37 #[v1, v2] w fun e w' => e = .returned (.bool true) ∧ Below w.heap.size w w' := by
  obtain ⟨A1, c1, rfl, hc1, hm1, f', rfl, hk1⟩ := els_of Taint.row_length h1
  obtain ⟨A2, c2, rfl, hc2, hm2, f'', rfl, hk2⟩ := els_of Taint.row_length h2
  unfold maxLen at hm1 hm2
  have Hk1 := Lib.hid hk1
  have Hk2 := Lib.hid hk2
  clear h1 h2 hk1 hk2
  go_enter Tryd.func37, Tryd.ntmps37
  go_wp2_with fail
  go_loopw [5] (fun i wr => ∃ (j : Nat), j ≤ l.length ∧ i = .int .i64 j ∧ Below w.heap.size w wr) (fun i _ => l.length - (intOf i).toNat)
  case atStart => exact ⟨0, Nat.zero_le _, rfl, Below.refl _ _⟩
  case round =>
    obtain ⟨j, hj, rfl, hbel⟩ := hrel
    by_cases hlt : j < l.length
    · obtain ⟨g1, o1, rfl, hg1, us, hus1, hcc1, hls1⟩ := (Hk1.out.below hbel).get hlt
      obtain ⟨g2, o2, rfl, hg2, us2, hus2, hcc2, hls2⟩ := (Hk2.out.below hbel).get hlt
      obtain ⟨rfl, hwf1⟩ := Taint.opened hls1
      obtain ⟨rfl, hwf2⟩ := Taint.opened hls2
      have q0 : wr.cell? ⟨g1, o1 + j * 3, none⟩ = some (.string l[j].key) := hcc1 0 _ rfl
      have q1 : wr.cell? ⟨g1, o1 + j * 3 + 1, none⟩ = some (.string l[j].value) := hcc1 1 _ rfl
      have q2 : wr.cell? ⟨g1, o1 + j * 3 + 2, none⟩ = some (.int .i64 l[j].effect) := hcc1 2 _ rfl
      have r0 : wr.cell? ⟨g2, o2 + j * 3, none⟩ = some (.string l[j].key) := hcc2 0 _ rfl
      have r1 : wr.cell? ⟨g2, o2 + j * 3 + 1, none⟩ = some (.string l[j].value) := hcc2 1 _ rfl
      have r2 : wr.cell? ⟨g2, o2 + j * 3 + 2, none⟩ = some (.int .i64 l[j].effect) := hcc2 2 _ rfl
      have HC := Lib.hid (fun w1 => eqTaint l[j] w1)
      have Hbel := Lib.hid hbel
      clear hls1 hls2 hbel hg1 hg2 hus1 hus2 hcc1 hcc2 hwf1 hwf2
      generalize l[j] = x at HC q0 q1 q2 r0 r1 r2
      go_wp2_with fail
      go_region_law (go_simp; go_at_call 71; refine (HC.out _).mono ?_; rintro e w1 ⟨rfl, hb1⟩)
      all_goals
        have hbel1 := Hbel.out.trans (((Below.refl _ _).drew.trans (hb1.mono (Nat.le_refl _))).mono Hbel.out.size)
        clear hb1 q0 q1 q2 r0 r1 r2
        go_wp2_with fail
        go_roundw
        case rel => exact ⟨j + 1, by omega, by go_num, hbel1⟩
        case measure => simp [intOf]; omega
    · obtain rfl : j = l.length := by omega
      have Hbel := Lib.hid hbel
      clear hbel
      go_wp2_with fail
      go_ret
      exact ⟨rfl, Hbel.out⟩
end Go.Proofs.YtcfbkfmkjggcdaaDoor.ty
namespace Go.Proofs.YtcfbkfmkjggcdaaDoor.ty
open Go.ChangeShapes Go.WideShapes Go.ChangeAt Go.RowKit
set_option linter.unusedVariables false

theorem eqHost (x : Host) (f1 f2 : Nat) (vs us : List Value) (w : World) (h1 : LiesS w f1 vs x.row) (h2 : LiesS w f2 us x.row) :
    Calls Tryd.prog 14 #[.agg vs.toArray, .agg us.toArray] w fun e w' => e = .returned (.bool true) ∧ Below w.heap.size w w' := by
  obtain ⟨a0, a1, a2, a3, a4, a5⟩ := x
  obtain ⟨A1, c1, A5, c5, rfl, hwf, k1, m1, l1, k5, m5, l5⟩ := Host.opened h1
  obtain ⟨B1, d1, B5, d5, rfl, hwf2, k1_, m1_, r1, k5_, m5_, r5⟩ := Host.opened h2
  simp only at *
  have HB1 := Lib.hid (Box.new 44 w [.string a0, .slice A1 a1.length c1, .int .i64 a2, .int .i64 a3, .int .i64 a4, .slice A5 a5.length c5])
  have HB2 := Lib.hid (HB1.out.below ((Below.refl _ _).alloc (Nat.le_refl _) (.cells #[.string a0, .slice B1 a1.length d1, .int .i64 a2, .int .i64 a3, .int .i64 a4, .slice B5 a5.length d5] 44)))
  have HB3 := Lib.hid (Box.new 44 (w.alloc (.cells #[.string a0, .slice A1 a1.length c1, .int .i64 a2, .int .i64 a3, .int .i64 a4, .slice A5 a5.length c5] 44)) [.string a0, .slice B1 a1.length d1, .int .i64 a2, .int .i64 a3, .int .i64 a4, .slice B5 a5.length d5])
  have hsz : (w.alloc (.cells #[.string a0, .slice A1 a1.length c1, .int .i64 a2, .int .i64 a3, .int .i64 a4, .slice A5 a5.length c5] 44)).heap.size = w.heap.size + 1 := by simp
  have E1 := Lib.hid (fun w1 (hb : Below w.heap.size w w1) => eqLabelS a1 f1 f2 (.slice A1 a1.length c1) (.slice B1 a1.length d1) w1 (l1.below hb) (r1.below hb))
  have E5 := Lib.hid (fun w1 (hb : Below w.heap.size w w1) => eqTaintS a5 f1 f2 (.slice A5 a5.length c5) (.slice B5 a5.length d5) w1 (l5.below hb) (r5.below hb))
  have p0 := HB2.out.cell (j := 0) rfl
  have p1 := HB2.out.cell (j := 1) rfl
  have p2 := HB2.out.cell (j := 2) rfl
  have p3 := HB2.out.cell (j := 3) rfl
  have p4 := HB2.out.cell (j := 4) rfl
  have p5 := HB2.out.cell (j := 5) rfl
  have q0 := HB3.out.cell (j := 0) rfl
  have q1 := HB3.out.cell (j := 1) rfl
  have q2 := HB3.out.cell (j := 2) rfl
  have q3 := HB3.out.cell (j := 3) rfl
  have q4 := HB3.out.cell (j := 4) rfl
  have q5 := HB3.out.cell (j := 5) rfl
  rw [hsz] at q0 q1 q2 q3 q4 q5
  have hq := HB3.out.2
  rw [hsz] at hq
  have Hq := Lib.hid hq
  have Hp := Lib.hid HB2.out.2
  have Hbb := Lib.hid HB2.out.1
  clear h1 h2 hwf hwf2 HB1 HB2 HB3 hq hsz l1 r1 k1 m1 k1_ m1_ l5 r5 k5 m5 k5_ m5_
  go_enter Tryd.func14, Tryd.ntmps14
  go_wp2_with fail
  refine (E1.out _ Hbb.out).mono ?_
  rintro e y1 ⟨rfl, b1⟩
  have Hbb1 := Lib.hid (Hbb.out.trans (b1.mono Hbb.out.size))
  clear p0 p1 p2 p3 p4 p5 q0 q1 q2 q3 q4 q5
  have Hp1 := Lib.hid (heap_kept b1 (heap_lt Hp.out) Hp.out)
  have Hq1 := Lib.hid (heap_kept b1 (heap_lt Hq.out) Hq.out)
  have p2_1 : y1.cell? ⟨w.heap.size, 2, none⟩ = some (.int .i64 a2) := by rw [cell_of_row _ _ 2 _ _ _ Hp1.out]; rfl
  have q2_1 : y1.cell? ⟨w.heap.size + 1, 2, none⟩ = some (.int .i64 a2) := by rw [cell_of_row _ _ 2 _ _ _ Hq1.out]; rfl
  have p3_1 : y1.cell? ⟨w.heap.size, 3, none⟩ = some (.int .i64 a3) := by rw [cell_of_row _ _ 3 _ _ _ Hp1.out]; rfl
  have q3_1 : y1.cell? ⟨w.heap.size + 1, 3, none⟩ = some (.int .i64 a3) := by rw [cell_of_row _ _ 3 _ _ _ Hq1.out]; rfl
  have p4_1 : y1.cell? ⟨w.heap.size, 4, none⟩ = some (.int .i64 a4) := by rw [cell_of_row _ _ 4 _ _ _ Hp1.out]; rfl
  have q4_1 : y1.cell? ⟨w.heap.size + 1, 4, none⟩ = some (.int .i64 a4) := by rw [cell_of_row _ _ 4 _ _ _ Hq1.out]; rfl
  have p5_1 : y1.cell? ⟨w.heap.size, 5, none⟩ = some (.slice A5 a5.length c5) := by rw [cell_of_row _ _ 5 _ _ _ Hp1.out]; rfl
  have q5_1 : y1.cell? ⟨w.heap.size + 1, 5, none⟩ = some (.slice B5 a5.length d5) := by rw [cell_of_row _ _ 5 _ _ _ Hq1.out]; rfl
  clear b1
  go_wp2_with fail
  refine (E5.out _ Hbb1.out).mono ?_
  rintro e y5 ⟨rfl, b5⟩
  have Hbb5 := Lib.hid (Hbb1.out.trans (b5.mono Hbb1.out.size))
  clear p2_1 q2_1 p3_1 q3_1 p4_1 q4_1 p5_1 q5_1
  clear b5
  go_wp2_with fail
  go_ret
  exact ⟨rfl, Hbb5.out⟩
end Go.Proofs.YtcfbkfmkjggcdaaDoor.ty
namespace Go.Proofs.YtcfbkfmkjggcdaaDoor.taint
open Go.ChangeShapes Go.WideShapes Go.ChangeAt Go.RowKit ty lab need
set_option linter.unusedVariables false

theorem taint_yes (x : Taint) : yes (TaintP x) = (yes (KeyP x.key ∧ ValP x.value) && yes (1 ≤ x.effect ∧ x.effect ≤ 2)) := by
  rw [← yes_and]
  congr 1
  exact propext ⟨fun h => ⟨⟨h.key, h.value⟩, h.lo, h.hi⟩, fun h => ⟨h.1.1, h.1.2, h.2.1, h.2.2⟩⟩
set_option maxRecDepth 100000 in
set_option maxHeartbeats 4000000 in
theorem impl_taint (x : Taint) (w : World) (hw : x.Wf) :
    Calls Tryd.prog 69 #[.agg #[.string x.key, .string x.value, .int .i64 x.effect]] w fun e w' => e = .returned (.bool (yes (TaintP x))) ∧ Below w.heap.size w w' := by
  rw [taint_yes]
  have HL := Lib.hid (fun w' => impl_lab x.key x.value x.effect w' hw.1 hw.2.1)
  have HE := Lib.hid (fun w' => impl_eff x.key x.value x.effect w')
  have HF := Lib.hid (fun w' => impl_ft x w')
  have Hb0 := Lib.hid (fun o : Obj => (Below.refl w.heap.size w).alloc (Nat.le_refl _) o)
  clear hw
  obtain ⟨k, a, n⟩ := x
  simp only at *
  generalize yes (1 ≤ n ∧ n ≤ 2) = r2 at HE ⊢
  generalize yes (KeyP k ∧ ValP a) = r1 at HL ⊢
  cases r1 with
  | false =>
    clear HE
    go_enter Tryd.func69, Tryd.ntmps69
    go_wp2_with fail
    refine (HF.out _).mono ?_
    rintro e w1 ⟨rfl, hg⟩
    have Hb1 := Lib.hid (below_link (Hb0.out _) hg.below (Hb0.out _).size)
    clear hg
    go_wp2_with fail
    refine (HL.out _).mono ?_
    rintro e w2 ⟨rfl, hb⟩
    have Hb2 := Lib.hid (below_link (Hb1.out.alloc Hb1.out.size _) hb (Hb1.out.alloc Hb1.out.size _).size)
    clear hb
    go_wp2_with fail
    go_ret
    exact ⟨rfl, Hb2.out⟩
  | true =>
    go_enter Tryd.func69, Tryd.ntmps69
    go_wp2_with fail
    refine (HF.out _).mono ?_
    rintro e w1 ⟨rfl, hg⟩
    have Hb1 := Lib.hid (below_link (Hb0.out _) hg.below (Hb0.out _).size)
    clear hg
    go_wp2_with fail
    refine (HL.out _).mono ?_
    rintro e w2 ⟨rfl, hb⟩
    have hr := (RowE.new 124 w1 [.string k, .string a, .int .i64 n]).below hb
    have c0 := hr.cell 0 _ rfl
    have c1 := hr.cell 1 _ rfl
    have c2 := hr.cell 2 _ rfl
    have Hb2 := Lib.hid (below_link (Hb1.out.alloc Hb1.out.size _) hb (Hb1.out.alloc Hb1.out.size _).size)
    clear hb hr
    go_wp2_with fail
    refine (HE.out _).mono ?_
    rintro e w3 ⟨rfl, hb⟩
    have Hb3 := Lib.hid (below_link Hb2.out hb Hb2.out.size)
    clear hb
    go_wp2_with fail
    go_ret
    exact ⟨by cases r2 <;> rfl, Hb3.out⟩
end Go.Proofs.YtcfbkfmkjggcdaaDoor.taint
namespace Go.Proofs.YtcfbkfmkjggcdaaDoor.taint
open Go.ChangeShapes Go.WideShapes Go.ChangeAt Go.RowKit ty lab need
set_option linter.unusedVariables false

/-- The embedded struct, taken out of a struct. -/
theorem emb_taint (a b : ByteArray) (n : Int) (w : World) : Sem.run Tryd.prog (Instr.field 124 (.agg #[.string a, .string b, .int .i64 n]) 0) w = .ok (.agg #[.string a, .string b, .int .i64 n]) w := by kernel_rfl
set_option maxRecDepth 100000 in
set_option maxHeartbeats 8000000 in
theorem impl_cmpT (x y : Taint) (w : World) :
    Calls Tryd.prog 70 #[.agg #[.string x.key, .string x.value, .int .i64 x.effect], .agg #[.string y.key, .string y.value, .int .i64 y.effect]] w fun e w' => e = .returned (.int .i64 (cmpT x y)) ∧ Gr w w' := by
  unfold cmpT
  obtain ⟨k1, a1, n1⟩ := x
  obtain ⟨k2, a2, n2⟩ := y
  simp only
  obtain ⟨X, hX⟩ : ∃ X, X = (w.alloc (.cells #[.string k1, .string a1, .int .i64 n1] 100)).alloc (.cells #[.string k2, .string a2, .int .i64 n2] 100) := ⟨_, rfl⟩
  have HB : Box2 100 w [.string k1, .string a1, .int .i64 n1] [.string k2, .string a2, .int .i64 n2] X := by rw [hX]; exact Box2.new _ _ _ _
  have hgr : Gr w X := by rw [hX]; exact ((Gr.refl w).alloc _).alloc _
  have hs : w.heap.size + 1 < X.heap.size := by rw [hX]; simp
  have p0 : ∀ p : GrBy X, p.v.cell? ⟨w.heap.size, 0, none⟩ = some (.string k1) := fun p => p.cell (by simp; omega) (HB.cell1 (j := 0) rfl)
  have p1 : ∀ p : GrBy X, p.v.cell? ⟨w.heap.size, 1, none⟩ = some (.string a1) := fun p => p.cell (by simp; omega) (HB.cell1 (j := 1) rfl)
  have p2 : ∀ p : GrBy X, p.v.cell? ⟨w.heap.size, 2, none⟩ = some (.int .i64 n1) := fun p => p.cell (by simp; omega) (HB.cell1 (j := 2) rfl)
  have q0 : ∀ p : GrBy X, p.v.cell? ⟨w.heap.size + 1, 0, none⟩ = some (.string k2) := fun p => p.cell (by simp; omega) (HB.cell2 (j := 0) rfl)
  have q1 : ∀ p : GrBy X, p.v.cell? ⟨w.heap.size + 1, 1, none⟩ = some (.string a2) := fun p => p.cell (by simp; omega) (HB.cell2 (j := 1) rfl)
  have q2 : ∀ p : GrBy X, p.v.cell? ⟨w.heap.size + 1, 2, none⟩ = some (.int .i64 n2) := fun p => p.cell (by simp; omega) (HB.cell2 (j := 2) rfl)
  have HF := Lib.hid (fun (a b : ByteArray) (n : Int) w' => impl_ft ⟨a, b, n⟩ w')
  simp only at HF
  have HC := Lib.hid (fun w' => impl_common k1 a1 n1 k2 a2 n2 w')
  have F0 := emb_taint
  have Hgr := Lib.hid hgr
  have HX := Lib.hid hX
  clear HB hgr hs hX
  generalize orI (cmpB k1 k2) (cmpB a1 a2) (arith.cmpF n1 n2) = r at HC ⊢
  go_enter Tryd.func70, Tryd.ntmps70
  go_wp2_with fail
  rw [← HX.out]
  refine wp_region_quiet_gr (by kernel_rfl) (by kernel_rfl) ?_
  repeat (refine @wpQuiet_step _ _ _ _ _ _ _ ?_; intro K hK; go_simp; first | (refine hK _ ?_; clear hK K) | (apply Exists.intro; refine ⟨fun _ => ?_, hK _ ?_⟩; (first | (go_at_call 89; exact Calls.gr_of (HF.out _ _ _ _)) | (go_at_call 87; exact Calls.gr_of (HC.out _))); clear hK K))
  refine wpQuiet_nil ?_
  intro _ hw'
  obtain ⟨p, rfl⟩ := hw'
  go_wp2_with fail
  go_ret
  exact ⟨rfl, Hgr.out.trans p.h⟩
end Go.Proofs.YtcfbkfmkjggcdaaDoor.taint
