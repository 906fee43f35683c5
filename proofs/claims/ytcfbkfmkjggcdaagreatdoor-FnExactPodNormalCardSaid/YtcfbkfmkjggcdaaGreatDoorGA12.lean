/- Merged: ToTolerance ToToleranceS ToPod InToleranceI MkStr MkNeedS. -/
import Derived.Test.YtcfbkfmkjggcdaaGreatDoorGA3
import Derived.Test.YtcfbkfmkjggcdaaGreatDoorRows
import Derived.ProofKit
import Derived.OpenShut
import Derived.Deep.WholeRow
import Derived.OwnWalk
import Derived.Test.YtcfbkfmkjggcdaaGreatDoorGA6
import Derived.Test.YtcfbkfmkjggcdaaGreatDoorGA7
import Derived.Test.YtcfbkfmkjggcdaaGreatDoorGA11
import Derived.Test.YtcfbkfmkjggcdaaGreatDoorGA10
import Derived.Test.YtcfbkfmkjggcdaaGreatDoorGA17
import Derived.Test.YtcfbkfmkjggcdaaGreatDoorGA2
namespace Go.Proofs.YtcfbkfmkjggcdaaGreatDoor.ty
open Go.ChangeShapes Go.WideShapes Go.ChangeAt Go.RowKit
set_option linter.unusedVariables false

theorem sizeTolerance : (Tryz.prog.info? 86).map (·.size) = some 4 := by kernel_rfl
theorem toTolerance (x : Tolerance) (w : World) (hx : x.Wf) :
    Calls Tryz.prog 130 #[.agg #[.string x.key, .bool x.equal, .string x.value, .int .i64 x.effect]] w fun e w' => e = .returned (.agg #[.string x.key, .bool x.equal, .string x.value, .int .i64 x.effect]) ∧ Below w.heap.size w w' := by
  obtain ⟨a0, a1, a2, a3⟩ := x
  clear hx
  simp only
  have Hb : Hid (∀ (a b c : Obj), Below w.heap.size w (((w.alloc a).alloc b).alloc c)) := fun a b c => (((Below.refl _ _).alloc (Nat.le_refl _) a).alloc (by simp) b).alloc (by simp <;> omega) c
  go_enter Tryz.func130, Tryz.ntmps130
  go_wp2_with fail
  refine bodyPost_ret (v := .agg #[.string a0, .bool a1, .string a2, .int .i64 a3]) ?_ rfl ⟨rfl, Hb.out _ _ _⟩
  have hrow : (((w.alloc (.cells #[.string a0, .bool a1, .string a2, .int .i64 a3] 149)).alloc (.cells #[.string a0, .bool a1, .string a2, .int .i64 a3] 86)).alloc (.cells #[.string a0, .bool a1, .string a2, .int .i64 a3] 86)).heap[w.heap.size + 1]? = some (.cells #[.string a0, .bool a1, .string a2, .int .i64 a3] 86 (0, 0)) := by
    rw [Below.heap_alloc _ _ _ (by simp)]
    have h := heap_alloc_new (w.alloc (.cells #[.string a0, .bool a1, .string a2, .int .i64 a3] 149)) (.cells #[.string a0, .bool a1, .string a2, .int .i64 a3] 86)
    simpa using h
  exact results_cell_row rfl _ _ (w.heap.size + 1) _ #[.string a0, .bool a1, .string a2, .int .i64 a3] (0, 0) _ rfl hrow Tryz.underlying86 rfl sizeTolerance
end Go.Proofs.YtcfbkfmkjggcdaaGreatDoor.ty
namespace Go.Proofs.YtcfbkfmkjggcdaaGreatDoor.ty
open Go.ChangeShapes Go.WideShapes Go.ChangeAt Go.RowKit
set_option linter.unusedVariables false

theorem TryzinfoTolerance : (Tryz.prog.info? 86).map (fun i => (i.zero, i.size, i.bytes)) = some (some (.agg #[.string ⟨#[]⟩, .bool false, .string ⟨#[]⟩, .int .i64 0]), 4, 48) := by kernel_rfl
set_option maxRecDepth 100000 in
theorem toToleranceS (l : List Tolerance) (f : Nat) (v : Value) (w : World) (h : Lies w f v (.sl 4 l.length (l.flatMap Tolerance.row))) (hw : l.length ≤ 1048576) :
    Calls Tryz.prog 66 #[v] w fun e w' => ∃ v', e = .returned v' ∧ OwnRow w' w.heap.size 1 86 4 v' l.length (l.flatMap Tolerance.row) ∧ Below w.heap.size w w' := by
  obtain ⟨A, c, rfl, hc1, hc2, f', rfl, hk⟩ := els_of Tolerance.row_length h
  obtain ⟨i0, hi, hz0, hz1, hz2⟩ := info_parts TryzinfoTolerance
  unfold maxLen at hc2
  have Hk := Lib.hid hk
  clear h hk
  go_enter Tryz.func66, Tryz.ntmps66
  go_wp2_with (at_make; refine wpList_make_full _ rfl _ _ 26 rfl w.heap.size 86 i0 _ 4 Tryz.underlying26 hi hz0 hz1 .i64 .i64 (l.length : Int) (l.length : Int) l.length rfl rfl rfl rfl (by rw [hz2]; omega) (by unfold maxLen; omega) (by simp) ?_)
  intro w1 hown1 hg1
  have hb1 : Below w.heap.size w w1 := (Below.refl _ _).grown hg1 (Nat.le_refl _) (fun b hb => by cases hb)
  obtain ⟨xs, hown⟩ : ∃ xs : List Value, w1.ownsRow w.heap.size 86 4 (.slice (some ⟨w.heap.size, 0, none⟩) l.length l.length) l.length xs := ⟨_, hown1⟩
  have Hown := Lib.hid hown
  have Hb1 := Lib.hid hb1
  clear hown1 hown hb1 hg1
  go_wp2_with fail
  go_loopw [4] (fun i wr => ∃ (j : Nat) (xs : List Value) (F : List Nat), j ≤ l.length ∧ i = .int .i64 j ∧ wr.ownsRow w.heap.size 86 4 (.slice (some ⟨w.heap.size, 0, none⟩) l.length l.length) l.length xs ∧
    OwnS wr w.heap.size 1 (xs.take (j * 4)) ((l.take j).flatMap Tolerance.row) F ∧ F.Nodup ∧ (∀ x ∈ F, x ≠ w.heap.size) ∧ Below w.heap.size w wr) (fun i _ => l.length - (intOf i).toNat)
  case atStart => exact ⟨0, xs, [], Nat.zero_le _, rfl, Hown.out, by simpa using OwnS.nil, List.nodup_nil, (fun x hx => by cases hx), Hb1.out⟩
  case round =>
    clear Hown Hb1 xs
    obtain ⟨j, xs, F, hj, rfl, hown, ho, hnd, hne, hbel⟩ := hrel
    by_cases hlt : j < l.length
    · obtain ⟨g, o, rfl, hg, us, hus, hc, hls⟩ := (Hk.out.below hbel).get hlt
      obtain ⟨rfl, hwf⟩ := Tolerance.opened hls
      have q0 : wr.cell? ⟨g, o + j * 4, none⟩ = some (.string l[j].key) := hc 0 _ rfl
      have q1 : wr.cell? ⟨g, o + j * 4 + 1, none⟩ = some (.bool l[j].equal) := hc 1 _ rfl
      have q2 : wr.cell? ⟨g, o + j * 4 + 2, none⟩ = some (.string l[j].value) := hc 2 _ rfl
      have q3 : wr.cell? ⟨g, o + j * 4 + 3, none⟩ = some (.int .i64 l[j].effect) := hc 3 _ rfl
      have hr1 : (l.take (j + 1)).flatMap Tolerance.row = (l.take j).flatMap Tolerance.row ++ l[j].row := by
        rw [List.take_succ_eq_append_getElem hlt, List.flatMap_append]; simp
      have Hr1 := Lib.hid hr1
      have HC := Lib.hid (toTolerance l[j] wr hwf)
      have Hwf := Lib.hid hwf
      have Hown := Lib.hid hown
      have Ho := Lib.hid ho
      have Hbel := Lib.hid hbel
      have hlb : w.heap.size < wr.heap.size := (hown.lt w.heap.size rfl).2
      have Hlb := Lib.hid hlb
      clear hls hg hwf hr1 hown ho hbel hlb hus hc
      generalize l[j] = x at HC Hr1 Hwf q0 q1 q2 q3
      go_wp2_with fail
      refine HC.out.mono ?_
      rintro e w2 ⟨rfl, hb2⟩
      have hown2 := own_below' Hown.out hb2
      have ho2 := Ho.out.below hb2
      obtain ⟨us, hus⟩ : ∃ us : List Value, us = [.string x.key, .bool x.equal, .string x.value, .int .i64 x.effect] := ⟨_, rfl⟩
      have hlen : us.length = 4 := by rw [hus]; rfl
      have hthere := own_there hown2 (j * 4) us.toArray.size (by simp [hlen]; omega)
      have hone : us.toArray.all (·.oneCell') = true := by rw [hus]; simp [Value.oneCell']
      have hsize : (Tryz.prog.info? 86).map (·.size) = some us.toArray.size := by rw [List.size_toArray, hlen]; exact sizeTolerance
      have hoG : OwnS w2 w.heap.size 1 us x.row [] := by rw [hus]; exact Tolerance.owned Hwf.out
      have Hfill := Lib.hid (own_fill hown2 hlt hlen ho2 hnd hne hoG List.nodup_nil (fun y hy hyG => by cases hyG) (fun y hy => by cases hy) rfl)
      have Hbel2 := Lib.hid (Hbel.out.trans (hb2.mono Hbel.out.size))
      have Hus := Lib.hid hus
      clear HC hoG hb2 hown2 ho2 Ho hnd hne Hown Hbel q0 q1 q2 q3
      rw [show (Value.agg #[.string x.key, .bool x.equal, .string x.value, .int .i64 x.effect]) = .agg us.toArray by rw [hus]]
      clear hus
      go_wp2_with (first | (refine Go.wpList_store_mid rfl 86 _ _ rfl w.heap.size (j * 4) us.toArray rfl rfl hthere hsize hone ?_) | fail)
      have hf := Hfill.out
      rw [← Hr1.out] at hf
      have hbel3 : Below w.heap.size w (w2.setCells w.heap.size (j * 4) us) := Hbel2.out.grown hf.2.2.2.2 Hbel2.out.size (fun b hb => by injection hb with hb; omega)
      have HF := Lib.hid hf
      have Hbel3 := Lib.hid hbel3
      clear hf hbel3 Hfill hthere hone hsize
      go_wp2_with fail
      go_roundw
      case rel => exact ⟨j + 1, _, _, by omega, by go_num, HF.out.1, HF.out.2.1, HF.out.2.2.1, HF.out.2.2.2.1, Hbel3.out⟩
      case measure => simp [intOf]; omega
    · obtain rfl : j = l.length := by omega
      rw [List.take_of_length_le (Nat.le_refl _)] at ho
      have HR := Lib.hid (own_filled hown (by rw [flat_length' Tolerance.row_length]) ho hnd hne)
      have Hbel := Lib.hid hbel
      clear hown ho hbel
      go_wp2_with fail
      go_ret
      exact ⟨_, rfl, HR.out, Hbel.out⟩
end Go.Proofs.YtcfbkfmkjggcdaaGreatDoor.ty
namespace Go.Proofs.YtcfbkfmkjggcdaaGreatDoor.ty
open Go.ChangeShapes Go.WideShapes Go.ChangeAt Go.RowKit
set_option linter.unusedVariables false

theorem sizePod : (Tryz.prog.info? 28).map (·.size) = some 7 := by kernel_rfl
set_option maxRecDepth 100000 in
set_option maxHeartbeats 16000000 in
theorem toPod (x : Pod) (f : Nat) (vs : List Value) (w : World) (h : LiesS w f vs x.row) (hw : x.wt ≤ 1048576) :
    Calls Tryz.prog 21 #[.agg vs.toArray] w fun e w' => AggOut w 3 x.row e w' := by
  obtain ⟨a0, a1, a2, a3, a4, a5, a6⟩ := x
  obtain ⟨A1, c1, A5, c5, A6, c6, rfl, hwf, k1, m1, l1, k5, m5, l5, k6, m6, l6⟩ := Pod.opened h
  unfold Pod.wt at hw
  simp only at hw hwf k1 m1 l1 k5 m5 l5 k6 m6 l6
  obtain ⟨w1, hw1⟩ : ∃ w1, w1 = ((w.alloc (.cells #[.string a0, .slice A1 a1.length c1, .int .i64 a2, .int .i64 a3, .int .i64 a4, .slice A5 a5.length c5, .slice A6 a6.length c6] 49)).alloc (.cells #[.string ⟨#[]⟩, .slice none 0 0, .int .i64 0, .int .i64 0, .int .i64 0, .slice none 0 0, .slice none 0 0] 28)).alloc (.cells #[.string a0, .slice none 0 0, .int .i64 0, .int .i64 0, .int .i64 0, .slice none 0 0, .slice none 0 0] 28) := ⟨_, rfl⟩
  have S0 := Lib.hid (show St3 49 28 w [.string a0, .slice A1 a1.length c1, .int .i64 a2, .int .i64 a3, .int .i64 a4, .slice A5 a5.length c5, .slice A6 a6.length c6] [.string ⟨#[]⟩, .slice none 0 0, .int .i64 0, .int .i64 0, .int .i64 0, .slice none 0 0, .slice none 0 0] [.string a0, .slice none 0 0, .int .i64 0, .int .i64 0, .int .i64 0, .slice none 0 0, .slice none 0 0] w1 by rw [hw1]; exact St3.new)
  have T1 := Lib.hid (fun w1 (hb : Below w.heap.size w w1) => toLabelS a1 f (.slice A1 a1.length c1) w1 (l1.below hb) (by omega))
  have T5 := Lib.hid (fun w1 (hb : Below w.heap.size w w1) => toNeedS a5 f (.slice A5 a5.length c5) w1 (l5.below hb) (by omega))
  have T6 := Lib.hid (fun w1 (hb : Below w.heap.size w w1) => toToleranceS a6 f (.slice A6 a6.length c6) w1 (l6.below hb) (by omega))
  have Hwf := Lib.hid hwf
  have Hw1 := Lib.hid hw1
  clear h hw hwf hw1 k1 m1 l1 k5 m5 l5 k6 m6 l6
  go_enter Tryz.func21, Tryz.ntmps21
  go_wp2_with fail
  rw [← Hw1.out]
  clear Hw1
  refine (T1.out _ S0.out.bel).mono ?_
  rintro e y1 ⟨v1, rfl, r1, b1⟩
  obtain ⟨B1, d1, rfl⟩ := r1.is_slice
  obtain ⟨F1, o1, n1, g1⟩ := r1.own
  have O1_0 : Og y1 w1.heap.size y1.heap.size 2 (.slice B1 a1.length d1) (.sl 2 a1.length (a1.flatMap Label.row)) F1 := ⟨o1, n1, g1⟩
  have Hlt1 := Lib.hid S0.out.lt
  have hlt1 := S0.out.lt
  have Hs1 := Lib.hid (show w1.heap.size ≤ y1.heap.size from b1.size)
  have S1_0 := S0.out.call b1
  have p1_0 : (y1).cell? ⟨w.heap.size + 2, 1, none⟩ = some (.slice none 0 0) := S1_0.k2.cell 1 _ rfl
  have f1_0 := RowE.frozen S1_0.k2 1
  have S1_1 : St3 49 28 w [.string a0, .slice A1 a1.length c1, .int .i64 a2, .int .i64 a3, .int .i64 a4, .slice A5 a5.length c5, .slice A6 a6.length c6] [.string ⟨#[]⟩, .slice none 0 0, .int .i64 0, .int .i64 0, .int .i64 0, .slice none 0 0, .slice none 0 0] [.string a0, .slice B1 a1.length d1, .int .i64 0, .int .i64 0, .int .i64 0, .slice none 0 0, .slice none 0 0] ((y1).setCell ⟨w.heap.size + 2, 1, none⟩ (.slice B1 a1.length d1)) := S1_0.put 1 (.slice B1 a1.length d1)
  have O1_1 := Og.put (j := 1) (u := .slice B1 a1.length d1) O1_0 (show w.heap.size + 2 < _ by omega)
  have p1_1 : ((y1).setCell ⟨w.heap.size + 2, 1, none⟩ (.slice B1 a1.length d1)).cell? ⟨w.heap.size + 2, 2, none⟩ = some (.int .i64 0) := S1_1.k2.cell 2 _ rfl
  have f1_1 := RowE.frozen S1_1.k2 2
  have q1_1 : ((y1).setCell ⟨w.heap.size + 2, 1, none⟩ (.slice B1 a1.length d1)).cell? ⟨w.heap.size, 2, none⟩ = some (.int .i64 a2) := S1_1.k0.cell 2 _ rfl
  have S1_2 : St3 49 28 w [.string a0, .slice A1 a1.length c1, .int .i64 a2, .int .i64 a3, .int .i64 a4, .slice A5 a5.length c5, .slice A6 a6.length c6] [.string ⟨#[]⟩, .slice none 0 0, .int .i64 0, .int .i64 0, .int .i64 0, .slice none 0 0, .slice none 0 0] [.string a0, .slice B1 a1.length d1, .int .i64 a2, .int .i64 0, .int .i64 0, .slice none 0 0, .slice none 0 0] (((y1).setCell ⟨w.heap.size + 2, 1, none⟩ (.slice B1 a1.length d1)).setCell ⟨w.heap.size + 2, 2, none⟩ (.int .i64 a2)) := S1_1.put 2 (.int .i64 a2)
  have O1_2 := Og.put (j := 2) (u := .int .i64 a2) O1_1 (show w.heap.size + 2 < _ by omega)
  have p1_2 : (((y1).setCell ⟨w.heap.size + 2, 1, none⟩ (.slice B1 a1.length d1)).setCell ⟨w.heap.size + 2, 2, none⟩ (.int .i64 a2)).cell? ⟨w.heap.size + 2, 3, none⟩ = some (.int .i64 0) := S1_2.k2.cell 3 _ rfl
  have f1_2 := RowE.frozen S1_2.k2 3
  have q1_2 : (((y1).setCell ⟨w.heap.size + 2, 1, none⟩ (.slice B1 a1.length d1)).setCell ⟨w.heap.size + 2, 2, none⟩ (.int .i64 a2)).cell? ⟨w.heap.size, 3, none⟩ = some (.int .i64 a3) := S1_2.k0.cell 3 _ rfl
  have S1_3 : St3 49 28 w [.string a0, .slice A1 a1.length c1, .int .i64 a2, .int .i64 a3, .int .i64 a4, .slice A5 a5.length c5, .slice A6 a6.length c6] [.string ⟨#[]⟩, .slice none 0 0, .int .i64 0, .int .i64 0, .int .i64 0, .slice none 0 0, .slice none 0 0] [.string a0, .slice B1 a1.length d1, .int .i64 a2, .int .i64 a3, .int .i64 0, .slice none 0 0, .slice none 0 0] ((((y1).setCell ⟨w.heap.size + 2, 1, none⟩ (.slice B1 a1.length d1)).setCell ⟨w.heap.size + 2, 2, none⟩ (.int .i64 a2)).setCell ⟨w.heap.size + 2, 3, none⟩ (.int .i64 a3)) := S1_2.put 3 (.int .i64 a3)
  have O1_3 := Og.put (j := 3) (u := .int .i64 a3) O1_2 (show w.heap.size + 2 < _ by omega)
  have p1_3 : ((((y1).setCell ⟨w.heap.size + 2, 1, none⟩ (.slice B1 a1.length d1)).setCell ⟨w.heap.size + 2, 2, none⟩ (.int .i64 a2)).setCell ⟨w.heap.size + 2, 3, none⟩ (.int .i64 a3)).cell? ⟨w.heap.size + 2, 4, none⟩ = some (.int .i64 0) := S1_3.k2.cell 4 _ rfl
  have f1_3 := RowE.frozen S1_3.k2 4
  have q1_3 : ((((y1).setCell ⟨w.heap.size + 2, 1, none⟩ (.slice B1 a1.length d1)).setCell ⟨w.heap.size + 2, 2, none⟩ (.int .i64 a2)).setCell ⟨w.heap.size + 2, 3, none⟩ (.int .i64 a3)).cell? ⟨w.heap.size, 4, none⟩ = some (.int .i64 a4) := S1_3.k0.cell 4 _ rfl
  have S1_4 : St3 49 28 w [.string a0, .slice A1 a1.length c1, .int .i64 a2, .int .i64 a3, .int .i64 a4, .slice A5 a5.length c5, .slice A6 a6.length c6] [.string ⟨#[]⟩, .slice none 0 0, .int .i64 0, .int .i64 0, .int .i64 0, .slice none 0 0, .slice none 0 0] [.string a0, .slice B1 a1.length d1, .int .i64 a2, .int .i64 a3, .int .i64 a4, .slice none 0 0, .slice none 0 0] (((((y1).setCell ⟨w.heap.size + 2, 1, none⟩ (.slice B1 a1.length d1)).setCell ⟨w.heap.size + 2, 2, none⟩ (.int .i64 a2)).setCell ⟨w.heap.size + 2, 3, none⟩ (.int .i64 a3)).setCell ⟨w.heap.size + 2, 4, none⟩ (.int .i64 a4)) := S1_3.put 4 (.int .i64 a4)
  have O1_4 := Og.put (j := 4) (u := .int .i64 a4) O1_3 (show w.heap.size + 2 < _ by omega)
  have qn1 : (((((y1).setCell ⟨w.heap.size + 2, 1, none⟩ (.slice B1 a1.length d1)).setCell ⟨w.heap.size + 2, 2, none⟩ (.int .i64 a2)).setCell ⟨w.heap.size + 2, 3, none⟩ (.int .i64 a3)).setCell ⟨w.heap.size + 2, 4, none⟩ (.int .i64 a4)).cell? ⟨w.heap.size, 5, none⟩ = some (.slice A5 a5.length c5) := S1_4.k0.cell 5 _ rfl
  have hE1 : (((((y1).setCell ⟨w.heap.size + 2, 1, none⟩ (.slice B1 a1.length d1)).setCell ⟨w.heap.size + 2, 2, none⟩ (.int .i64 a2)).setCell ⟨w.heap.size + 2, 3, none⟩ (.int .i64 a3)).setCell ⟨w.heap.size + 2, 4, none⟩ (.int .i64 a4)).heap.size = y1.heap.size := by simp only [size_setCell]
  obtain ⟨z1, hz1⟩ : ∃ z, ((((y1).setCell ⟨w.heap.size + 2, 1, none⟩ (.slice B1 a1.length d1)).setCell ⟨w.heap.size + 2, 2, none⟩ (.int .i64 a2)).setCell ⟨w.heap.size + 2, 3, none⟩ (.int .i64 a3)).setCell ⟨w.heap.size + 2, 4, none⟩ (.int .i64 a4) = z := ⟨_, rfl⟩
  rw [hz1] at S1_4 O1_4 hE1 qn1
  have S1 := Lib.hid S1_4
  have O1at1 := Lib.hid O1_4
  have HE1 := Lib.hid hE1
  clear r1 b1 o1 n1 g1 hE1 hlt1 S1_4 O1_4 S1_0 O1_0 S1_1 O1_1 S1_2 O1_2 S1_3 O1_3
  clear S0
  go_wp2_with fail
  clear p1_0 f1_0 p1_1 f1_1 q1_1 p1_2 f1_2 q1_2 p1_3 f1_3 q1_3 qn1 hz1
  refine (T5.out _ S1.out.bel).mono ?_
  rintro e y5 ⟨v5, rfl, r5, b5⟩
  obtain ⟨B5, d5, rfl⟩ := r5.is_slice
  obtain ⟨F5, o5, n5, g5⟩ := r5.own
  have O5_0 : Og y5 z1.heap.size y5.heap.size 3 (.slice B5 a5.length d5) (.sl 3 a5.length (a5.flatMap Need.row)) F5 := ⟨o5, n5, g5⟩
  have Hlt5 := Lib.hid S1.out.lt
  have hlt5 := S1.out.lt
  have Hs5 := Lib.hid (show z1.heap.size ≤ y5.heap.size from b5.size)
  have S5_0 := S1.out.call b5
  have O1_5_0 := O1at1.out.call b5
  have p5_0 : (y5).cell? ⟨w.heap.size + 2, 5, none⟩ = some (.slice none 0 0) := S5_0.k2.cell 5 _ rfl
  have f5_0 := RowE.frozen S5_0.k2 5
  have S5_1 : St3 49 28 w [.string a0, .slice A1 a1.length c1, .int .i64 a2, .int .i64 a3, .int .i64 a4, .slice A5 a5.length c5, .slice A6 a6.length c6] [.string ⟨#[]⟩, .slice none 0 0, .int .i64 0, .int .i64 0, .int .i64 0, .slice none 0 0, .slice none 0 0] [.string a0, .slice B1 a1.length d1, .int .i64 a2, .int .i64 a3, .int .i64 a4, .slice B5 a5.length d5, .slice none 0 0] ((y5).setCell ⟨w.heap.size + 2, 5, none⟩ (.slice B5 a5.length d5)) := S5_0.put 5 (.slice B5 a5.length d5)
  have O5_1 := Og.put (j := 5) (u := .slice B5 a5.length d5) O5_0 (show w.heap.size + 2 < _ by omega)
  have O1_5_1 := Og.put (j := 5) (u := .slice B5 a5.length d5) O1_5_0 (show w.heap.size + 2 < _ by have := Hlt1.out; omega)
  have qn5 : ((y5).setCell ⟨w.heap.size + 2, 5, none⟩ (.slice B5 a5.length d5)).cell? ⟨w.heap.size, 6, none⟩ = some (.slice A6 a6.length c6) := S5_1.k0.cell 6 _ rfl
  have hE5 : ((y5).setCell ⟨w.heap.size + 2, 5, none⟩ (.slice B5 a5.length d5)).heap.size = y5.heap.size := by simp only [size_setCell]
  obtain ⟨z5, hz5⟩ : ∃ z, (y5).setCell ⟨w.heap.size + 2, 5, none⟩ (.slice B5 a5.length d5) = z := ⟨_, rfl⟩
  rw [hz5] at S5_1 O5_1 O1_5_1 hE5 qn5
  have S5 := Lib.hid S5_1
  have O5at5 := Lib.hid O5_1
  have O1at5 := Lib.hid O1_5_1
  have HE5 := Lib.hid hE5
  clear r5 b5 o5 n5 g5 hE5 hlt5 S5_1 O5_1 O1_5_1 S5_0 O5_0 O1_5_0
  clear S1 O1at1
  go_wp2_with fail
  clear p5_0 f5_0 qn5 hz5
  refine (T6.out _ S5.out.bel).mono ?_
  rintro e y6 ⟨v6, rfl, r6, b6⟩
  obtain ⟨B6, d6, rfl⟩ := r6.is_slice
  obtain ⟨F6, o6, n6, g6⟩ := r6.own
  have O6_0 : Og y6 z5.heap.size y6.heap.size 2 (.slice B6 a6.length d6) (.sl 4 a6.length (a6.flatMap Tolerance.row)) F6 := ⟨o6, n6, g6⟩
  have Hlt6 := Lib.hid S5.out.lt
  have hlt6 := S5.out.lt
  have Hs6 := Lib.hid (show z5.heap.size ≤ y6.heap.size from b6.size)
  have S6_0 := S5.out.call b6
  have O5_6_0 := O5at5.out.call b6
  have O1_6_0 := O1at5.out.call b6
  have p6_0 : (y6).cell? ⟨w.heap.size + 2, 6, none⟩ = some (.slice none 0 0) := S6_0.k2.cell 6 _ rfl
  have f6_0 := RowE.frozen S6_0.k2 6
  have S6_1 : St3 49 28 w [.string a0, .slice A1 a1.length c1, .int .i64 a2, .int .i64 a3, .int .i64 a4, .slice A5 a5.length c5, .slice A6 a6.length c6] [.string ⟨#[]⟩, .slice none 0 0, .int .i64 0, .int .i64 0, .int .i64 0, .slice none 0 0, .slice none 0 0] [.string a0, .slice B1 a1.length d1, .int .i64 a2, .int .i64 a3, .int .i64 a4, .slice B5 a5.length d5, .slice B6 a6.length d6] ((y6).setCell ⟨w.heap.size + 2, 6, none⟩ (.slice B6 a6.length d6)) := S6_0.put 6 (.slice B6 a6.length d6)
  have O6_1 := Og.put (j := 6) (u := .slice B6 a6.length d6) O6_0 (show w.heap.size + 2 < _ by omega)
  have O5_6_1 := Og.put (j := 6) (u := .slice B6 a6.length d6) O5_6_0 (show w.heap.size + 2 < _ by have := Hlt5.out; omega)
  have O1_6_1 := Og.put (j := 6) (u := .slice B6 a6.length d6) O1_6_0 (show w.heap.size + 2 < _ by have := Hlt1.out; omega)
  have hE6 : ((y6).setCell ⟨w.heap.size + 2, 6, none⟩ (.slice B6 a6.length d6)).heap.size = y6.heap.size := by simp only [size_setCell]
  obtain ⟨z6, hz6⟩ : ∃ z, (y6).setCell ⟨w.heap.size + 2, 6, none⟩ (.slice B6 a6.length d6) = z := ⟨_, rfl⟩
  rw [hz6] at S6_1 O6_1 O5_6_1 O1_6_1 hE6
  have S6 := Lib.hid S6_1
  have O6at6 := Lib.hid O6_1
  have O5at6 := Lib.hid O5_6_1
  have O1at6 := Lib.hid O1_6_1
  have HE6 := Lib.hid hE6
  clear r6 b6 o6 n6 g6 hE6 hlt6 S6_1 O6_1 O5_6_1 O1_6_1 S6_0 O6_0 O5_6_0 O1_6_0
  clear S5 O5at5 O1at5
  have h52 := S6.out.k2
  have h51 := S6.out.k1
  unfold RowE at h51 h52
  go_wp2_with (first | (refine wpList_load_row rfl 28 _ rfl (w.heap.size + 2) rfl 28 #[.string a0, .slice B1 a1.length d1, .int .i64 a2, .int .i64 a3, .int .i64 a4, .slice B5 a5.length d5, .slice B6 a6.length d6] (0, 0) _ h52 Tryz.underlying28 rfl sizePod ?_) | (refine wpList_store_row rfl 28 _ _ rfl (w.heap.size + 1) #[.string a0, .slice B1 a1.length d1, .int .i64 a2, .int .i64 a3, .int .i64 a4, .slice B5 a5.length d5, .slice B6 a6.length d6] rfl rfl 28 _ h51 sizePod rfl (by simp [Value.oneCell']) ?_) | fail)
  obtain ⟨F, ho, hnd, _⟩ := Pod.owned (x := ⟨a0, a1, a2, a3, a4, a5, a6⟩) (f := 2) (w := z6.setRow (w.heap.size + 1) #[.string a0, .slice B1 a1.length d1, .int .i64 a2, .int .i64 a3, .int .i64 a4, .slice B5 a5.length d5, .slice B6 a6.length d6]) Hwf.out (O1at6.out.done (f' := 3) (B' := w.heap.size) (c := #[.string a0, .slice B1 a1.length d1, .int .i64 a2, .int .i64 a3, .int .i64 a4, .slice B5 a5.length d5, .slice B6 a6.length d6]) (show w.heap.size + 1 < _ by have := HE1.out; have := Hs1.out; have := Hlt1.out; have := HE5.out; have := Hs5.out; have := Hlt5.out; have := HE6.out; have := Hs6.out; have := Hlt6.out; omega) (by have := HE1.out; have := Hs1.out; have := Hlt1.out; have := HE5.out; have := Hs5.out; have := Hlt5.out; have := HE6.out; have := Hs6.out; have := Hlt6.out; omega) (by decide)) (O5at6.out.done (f' := 3) (B' := w.heap.size) (c := #[.string a0, .slice B1 a1.length d1, .int .i64 a2, .int .i64 a3, .int .i64 a4, .slice B5 a5.length d5, .slice B6 a6.length d6]) (show w.heap.size + 1 < _ by have := HE1.out; have := Hs1.out; have := Hlt1.out; have := HE5.out; have := Hs5.out; have := Hlt5.out; have := HE6.out; have := Hs6.out; have := Hlt6.out; omega) (by have := HE1.out; have := Hs1.out; have := Hlt1.out; have := HE5.out; have := Hs5.out; have := Hlt5.out; have := HE6.out; have := Hs6.out; have := Hlt6.out; omega) (by decide)) (O6at6.out.done (f' := 3) (B' := w.heap.size) (c := #[.string a0, .slice B1 a1.length d1, .int .i64 a2, .int .i64 a3, .int .i64 a4, .slice B5 a5.length d5, .slice B6 a6.length d6]) (show w.heap.size + 1 < _ by have := HE1.out; have := Hs1.out; have := Hlt1.out; have := HE5.out; have := Hs5.out; have := Hlt5.out; have := HE6.out; have := Hs6.out; have := Hlt6.out; omega) (by have := HE1.out; have := Hs1.out; have := Hlt1.out; have := HE5.out; have := Hs5.out; have := Hlt5.out; have := HE6.out; have := Hs6.out; have := Hlt6.out; omega) (by decide)) O1at6.out.nod O5at6.out.nod O6at6.out.nod (O1at6.out.apart O5at6.out (by have := HE1.out; have := Hs1.out; have := Hlt1.out; have := HE5.out; have := Hs5.out; have := Hlt5.out; have := HE6.out; have := Hs6.out; have := Hlt6.out; omega)) (O1at6.out.apart O6at6.out (by have := HE1.out; have := Hs1.out; have := Hlt1.out; have := HE5.out; have := Hs5.out; have := Hlt5.out; have := HE6.out; have := Hs6.out; have := Hlt6.out; omega)) (O5at6.out.apart O6at6.out (by have := HE1.out; have := Hs1.out; have := Hlt1.out; have := HE5.out; have := Hs5.out; have := Hlt5.out; have := HE6.out; have := Hs6.out; have := Hlt6.out; omega))
  refine bodyPost_ret (v := .agg #[.string a0, .slice B1 a1.length d1, .int .i64 a2, .int .i64 a3, .int .i64 a4, .slice B5 a5.length d5, .slice B6 a6.length d6]) ?_ rfl ⟨_, F, rfl, ho, hnd, setRow_below S6.out.bel (by omega) _⟩
  exact results_cell_row rfl _ _ (w.heap.size + 1) _ _ (0, 0) _ rfl (setRow_at h51) Tryz.underlying28 rfl sizePod
end Go.Proofs.YtcfbkfmkjggcdaaGreatDoor.ty
namespace Go.Proofs.YtcfbkfmkjggcdaaGreatDoor.taint
open Go Go.RowKit
theorem TryzinfITolerance : (Tryz.prog.info? 86).map (fun i => (i.zero, i.size, i.bytes)) = some (some (.agg #[.string ⟨#[]⟩, .bool false, .string ⟨#[]⟩, .int .i64 0]), 4, 48) := by kernel_rfl
end Go.Proofs.YtcfbkfmkjggcdaaGreatDoor.taint
namespace Go.Proofs.YtcfbkfmkjggcdaaGreatDoor.ty
open Go.ChangeShapes Go.WideShapes Go.ChangeAt Go.RowKit
set_option linter.unusedVariables false

theorem dg_same : ∀ (f m : Nat) (acc : List UInt8), lawStr.dg f m acc = lawMark.dg f m acc
  | 0, m, acc => rfl
  | f + 1, m, acc => by rw [lawStr.dg, lawMark.dg, dg_same f]
theorem mt_same (m : Int) : lawStr.mt m = lawMark.mt m := by
  unfold lawStr.mt lawMark.mt
  rw [dg_same]
theorem marks_same (l : List ByteArray) (k : Int) : lawStr.marks k l.length = mks Str.mark Str.cost l k := by
  rw [Str.marks]
  unfold lawStr.marks
  refine List.map_congr_left fun j _ => mt_same _
theorem mkStr (B : Nat) (v : Value) (l : List ByteArray) (f : Nat) (F : List Nat) (k : Int) (w : World) (hown : Own w B (f + 1) v (.sl 1 l.length (l.flatMap Str.row)) F) (h0 : 0 ≤ k) (hk : k + wsum Str.cost l ≤ 4611686018427387904) :
    Calls Tryz.prog 135 #[v, .int .i64 k] w fun e w' => e = .returned (.int .i64 (k + wsum Str.cost l)) ∧ Own w' B (f + 1) v (.sl 1 l.length ((mks Str.mark Str.cost l k).flatMap Str.row)) F ∧ KeptBut F w w' := by
  rw [Str.flat] at hown
  rw [Str.cost_sum] at hk ⊢
  obtain ⟨e0, hr, _, hF⟩ := own_strs_row hown
  refine (lawStr.mark_any B l.length v k _ w hr h0 hk).mono ?_
  rintro e w1 ⟨rfl, hr1, hg⟩
  refine ⟨rfl, ?_, KeptBut.of_row hg hF⟩
  rw [Str.flat, ← marks_same]
  exact own_strs_again hown hr1 (by rw [lawStr.marks_length]) (fun x hx => by
    simp only [lawStr.marks, List.mem_map, List.mem_range] at hx
    obtain ⟨m, hm, rfl⟩ := hx
    rw [mt_same]
    exact lawMark.mt_size _ (by omega)) hF
theorem hdStr (l : List ByteArray) (f : Nat) (v : Value) (k : Int) (w : World) (h : Lies w f v (.sl 1 l.length ((mks Str.mark Str.cost l k).flatMap Str.row))) (h0 : 0 ≤ k) (hk : k + wsum Str.cost l ≤ 4611686018427387904) :
    Calls Tryz.prog 136 #[v, .int .i64 k] w fun e w' => e = .returned (.int .i64 (k + wsum Str.cost l)) ∧ Below w.heap.size w w' := by
  have hl := mks_length Str.mark Str.cost l k
  rw [← hl] at h
  obtain ⟨A, c, rfl, k1, m1, r1, _⟩ := Str.opened h
  rw [hl] at r1 ⊢
  rw [← marks_same] at r1
  rw [Str.cost_sum] at hk ⊢
  exact lawStr.held_yes A l.length c k w r1 h0 hk
end Go.Proofs.YtcfbkfmkjggcdaaGreatDoor.ty
namespace Go.Proofs.YtcfbkfmkjggcdaaGreatDoor.ty
open Go.ChangeShapes Go.WideShapes Go.ChangeAt Go.RowKit
set_option linter.unusedVariables false

theorem mkNeedS_nil (k : Int) (w : World) (h0 : 0 ≤ k) (hk : k ≤ 4611686018427387904) :
    Calls Tryz.prog 71 #[.slice none 0 0, .int .i64 k] w fun e w' => e = .returned (.int .i64 k) ∧ w' = w := by
  go_enter Tryz.func71, Tryz.ntmps71
  go_wp2_with fail
  refine wp_loop_rounds 1 ?_
  rw [rounds_succ]
  go_wp2_with fail
  go_ret
  exact ⟨rfl, rfl⟩
theorem row_markNeed (a0 a1 a2) (K : Int) : Need.row (Need.mark (Need.mk a0 a1 a2) K) = [.str (lawMark.mt (K)), .int .i64 (K + 1), .sl 1 a2.length ((mks Str.mark Str.cost a2 (K + 2)).flatMap Str.row)] := by
  unfold Need.mark Need.row
  simp only [mks_length]
set_option maxRecDepth 100000 in
set_option maxHeartbeats 8000000 in
theorem mkNeedS (B : Nat) (v : Value) (l : List Need) (f : Nat) (F : List Nat) (k : Int) (w : World) (hown : Own w B (f + 1) v (.sl 3 l.length (l.flatMap Need.row)) F) (hnd : F.Nodup) (h0 : 0 ≤ k) (hk : k + wsum Need.cost l ≤ 4611686018427387904) :
    Calls Tryz.prog 71 #[v, .int .i64 k] w fun e w' => e = .returned (.int .i64 (k + wsum Need.cost l)) ∧ Own w' B (f + 1) v (.sl 3 l.length ((mks Need.mark Need.cost l k).flatMap Need.row)) F ∧ KeptBut F w w' := by
  have hown' := hown
  obtain ⟨hl, ⟨rfl, hn, rfl⟩ | ⟨g, c, cur, e, Fs, rfl, h1, h2, h3, h4, hz, hF, h5, h6⟩⟩ := hown'
  · have : l = [] := List.eq_nil_of_length_eq_zero hn
    subst this
    refine (mkNeedS_nil k w h0 (by simpa [wsum] using hk)).mono ?_
    rintro e w' ⟨rfl, rfl⟩
    exact ⟨by simp [wsum], by simpa [mks] using hown, KeptBut.refl _ _⟩
  have hcm : l.length ≤ 9223372036854775807 := by unfold maxLen at h2; omega
  clear hl h3 h4 hz hF h5 h6 cur e Fs
  have Hown := Lib.hid hown
  clear hown
  go_enter Tryz.func71, Tryz.ntmps71
  go_wp2_with fail
  go_loopw [1, 5] (fun a i wr => ∃ (j : Nat), j ≤ l.length ∧ i = .int .i64 j ∧ a = .int .i64 (k + wsum Need.cost (l.take j)) ∧ Own wr B (f + 1) (.slice (some ⟨g, 0, none⟩) l.length c) (.sl 3 l.length ((mks Need.mark Need.cost (l.take j) k ++ l.drop j).flatMap Need.row)) F ∧ KeptBut F w wr) (fun _ i _ => l.length - (intOf i).toNat)
  case atStart => exact ⟨0, Nat.zero_le _, rfl, by simp [wsum], by simpa [mks] using Hown.out, KeptBut.refl _ _⟩
  case round =>
    clear Hown
    obtain ⟨j, hj, rfl, rfl, hown, hkb⟩ := hrel
    by_cases hlt : j < l.length
    · have hdrop : l.drop j = l[j] :: l.drop (j + 1) := List.drop_eq_getElem_cons hlt
      have hnext := wsum_take Need.cost hlt
      have hall := wsum_all Need.cost l (j + 1)
      have hmark := mks_next Need.mark Need.cost hlt k
      rw [hdrop, List.flatMap_append, List.flatMap_cons] at hown
      have Hmark := Lib.hid hmark
      have HL := Lib.hid (show ((mks Need.mark Need.cost (l.take j) k).flatMap Need.row).length = j * 3 by rw [flat_length' Need.row_length, mks_length, List.length_take]; congr 1; omega)
      have Hnext := Lib.hid hnext
      obtain ⟨a0, a1, a2, hx⟩ : ∃ a0 a1 a2, l[j] = Need.mk a0 a1 a2 := ⟨l[j].key, l[j].op, l[j].values, rfl⟩
      rw [hx] at hown Hmark Hnext hnext
      rw [show Need.cost (Need.mk a0 a1 a2) = 2 + wsum Str.cost a2 from rfl] at Hnext hnext
      generalize wsum Need.cost (l.take j) = C0 at *
      have hkk : k + C0 + ((2 + wsum Str.cost a2 : Nat) : Int) ≤ 4611686018427387904 := by omega
      clear hmark hnext hall hx hdrop
      obtain ⟨K, hK⟩ : ∃ K, k + C0 = K := ⟨_, rfl⟩
      rw [hK] at hkk Hmark ⊢
      have hK0 : 0 ≤ K := by omega
      have HK := Lib.hid hK
      clear hK
      generalize hLL : (mks Need.mark Need.cost (l.take j) k).flatMap Need.row = L at *
      generalize hRR : (l.drop (j + 1)).flatMap Need.row = R at *
      have hown0 : Own wr B (f + 1) (.slice (some ⟨g, 0, none⟩) l.length c) (.sl 3 l.length (mid L [.str a0, .int .i64 a1, .sl 1 a2.length (a2.flatMap Str.row)] R)) F := hown
      clear hown
      cases f with
      | zero =>
        obtain ⟨_, _, _, _, ho, _⟩ := Own.field hown0 hnd HL.out (r := 0) rfl
        exact ho.elim
      | succ f =>
      have HMT := Lib.hid (fun m w hm => lawMark.mark_text m w hm)
      have e1 : (K + 1) + 1 = K + 2 := by omega
      go_wp2_with fail
      refine (HMT.out (K) _ (by omega)).mono ?_
      rintro e x1 ⟨rfl, hb1⟩
      have on1 := Own.below hown0 hb1
      have kn1 := KeptBut.trans hkb (KeptBut.of_below hb1)
      clear hb1 hown0 hkb
      obtain ⟨o0, b0, ⟨q0, p0⟩, f0⟩ := Own.put (r := 0) (d' := .str (lawMark.mt (K))) (u' := .string (lawMark.mt (K))) on1 hnd HL.out rfl trivial (fun w' => own_str (lawMark.mt_size _ (by omega)))
      have k0 := KeptBut.trans kn1 b0
      simp only [Nat.add_zero] at o0 k0 p0 f0 b0
      clear b0 on1 kn1
      obtain ⟨o1, b1, ⟨q1, p1⟩, f1⟩ := Own.put (r := 1) (d' := .int .i64 (K + 1)) (u' := .int .i64 (K + 1)) o0 hnd HL.out rfl trivial (fun w' => own_int (lawMark.wf_of (by omega) (by omega)))
      have k1 := KeptBut.trans k0 b1
      clear b1 o0 k0
      obtain ⟨u2, G2, q2, _, s2, hs2, _, _, hd2, back2⟩ := Own.field (r := 2) (d := .sl 1 a2.length (a2.flatMap Str.row)) o1 hnd HL.out rfl
      have HM2 := Lib.hid (mkStr B u2 a2 f G2 (K + 2) _ s2 (by omega) (by omega))
      have Hback2 := Lib.hid back2
      have Hkb2 := Lib.hid k1
      have Hs2 := Lib.hid hs2
      clear s2 hs2 hd2 back2 o1 k1
      go_wp2_with fail
      refine HM2.out.mono ?_
      rintro e x2 ⟨rfl, m2, km2⟩
      have o2 := Hback2.out x2 _ km2 m2
      have k2 := KeptBut.trans Hkb2.out (km2.mono Hs2.out)
      clear HM2 Hback2 Hkb2 Hs2 km2 m2 q2 p0 f0 p1 f1
      have Ho9 : Hid (Own x2 B (f + 1 + 1) (.slice (some ⟨g, 0, none⟩) l.length c) (.sl 3 l.length ((mks Need.mark Need.cost (l.take (j + 1)) k ++ l.drop (j + 1)).flatMap Need.row)) F) := by
        unfold Hid
        rw [Hmark.out, List.flatMap_append, List.flatMap_cons, hLL, hRR, row_markNeed]
        exact o2
      have Hkb9 := Lib.hid k2
      clear o2 k2 HMT
      go_wp2_with fail
      go_roundw
      case rel => exact ⟨j + 1, by omega, by go_num, by rw [Hnext.out]; have := HK.out; congr 1; omega, Ho9.out, Hkb9.out⟩
      case measure => simp [intOf]; omega
    · obtain rfl : j = l.length := by omega
      rw [List.take_of_length_le (Nat.le_refl _), List.drop_of_length_le (Nat.le_refl _), List.append_nil] at hown
      have Hown := Lib.hid hown
      have Hkb := Lib.hid hkb
      clear hown hkb
      rw [List.take_of_length_le (Nat.le_refl _)]
      go_wp2_with fail
      go_ret
      exact ⟨rfl, Hown.out, Hkb.out⟩
end Go.Proofs.YtcfbkfmkjggcdaaGreatDoor.ty
