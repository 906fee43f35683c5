/- Merged: MkToleranceS MkPod HdNeedS HdToleranceS HdPod SzStr SzNeed SzNeedS. -/
import Derived.Test.YtcfbkfmkjggcdaaGreatDoorGA3
import Derived.Test.YtcfbkfmkjggcdaaGreatDoorGA2
import Derived.Test.YtcfbkfmkjggcdaaGreatDoorGA7
import Derived.Test.YtcfbkfmkjggcdaaGreatDoorGA6
import Derived.Test.YtcfbkfmkjggcdaaGreatDoorGA12
import Derived.Test.YtcfbkfmkjggcdaaGreatDoorRows
import Derived.ProofKit
import Derived.OpenShut
namespace Go.Proofs.YtcfbkfmkjggcdaaGreatDoor.ty
open Go.ChangeShapes Go.WideShapes Go.ChangeAt Go.RowKit
set_option linter.unusedVariables false

theorem mkToleranceS_nil (k : Int) (w : World) (h0 : 0 ≤ k) (hk : k ≤ 4611686018427387904) :
    Calls Tryz.prog 72 #[.slice none 0 0, .int .i64 k] w fun e w' => e = .returned (.int .i64 k) ∧ w' = w := by
  go_enter Tryz.func72, Tryz.ntmps72
  go_wp2_with fail
  refine wp_loop_rounds 1 ?_
  rw [rounds_succ]
  go_wp2_with fail
  go_ret
  exact ⟨rfl, rfl⟩
set_option maxRecDepth 100000 in
set_option maxHeartbeats 8000000 in
theorem mkToleranceS (B : Nat) (v : Value) (l : List Tolerance) (f : Nat) (F : List Nat) (k : Int) (w : World) (hown : Own w B (f + 1) v (.sl 4 l.length (l.flatMap Tolerance.row)) F) (hnd : F.Nodup) (h0 : 0 ≤ k) (hk : k + wsum Tolerance.cost l ≤ 4611686018427387904) :
    Calls Tryz.prog 72 #[v, .int .i64 k] w fun e w' => e = .returned (.int .i64 (k + wsum Tolerance.cost l)) ∧ Own w' B (f + 1) v (.sl 4 l.length ((mks Tolerance.mark Tolerance.cost l k).flatMap Tolerance.row)) F ∧ KeptBut F w w' := by
  have hown' := hown
  obtain ⟨hl, ⟨rfl, hn, rfl⟩ | ⟨g, c, cur, e, Fs, rfl, h1, h2, h3, h4, hz, hF, h5, h6⟩⟩ := hown'
  · have : l = [] := List.eq_nil_of_length_eq_zero hn
    subst this
    refine (mkToleranceS_nil k w h0 (by simpa [wsum] using hk)).mono ?_
    rintro e w' ⟨rfl, rfl⟩
    exact ⟨by simp [wsum], by simpa [mks] using hown, KeptBut.refl _ _⟩
  have hcm : l.length ≤ 9223372036854775807 := by unfold maxLen at h2; omega
  clear hl h3 h4 hz hF h5 h6 cur e Fs
  have Hown := Lib.hid hown
  clear hown
  go_enter Tryz.func72, Tryz.ntmps72
  go_wp2_with fail
  go_loopw [1, 5] (fun a i wr => ∃ (j : Nat), j ≤ l.length ∧ i = .int .i64 j ∧ a = .int .i64 (k + wsum Tolerance.cost (l.take j)) ∧ Own wr B (f + 1) (.slice (some ⟨g, 0, none⟩) l.length c) (.sl 4 l.length ((mks Tolerance.mark Tolerance.cost (l.take j) k ++ l.drop j).flatMap Tolerance.row)) F ∧ KeptBut F w wr) (fun _ i _ => l.length - (intOf i).toNat)
  case atStart => exact ⟨0, Nat.zero_le _, rfl, by simp [wsum], by simpa [mks] using Hown.out, KeptBut.refl _ _⟩
  case round =>
    clear Hown
    obtain ⟨j, hj, rfl, rfl, hown, hkb⟩ := hrel
    by_cases hlt : j < l.length
    · have hdrop : l.drop j = l[j] :: l.drop (j + 1) := List.drop_eq_getElem_cons hlt
      have hnext := wsum_take Tolerance.cost hlt
      have hall := wsum_all Tolerance.cost l (j + 1)
      have hmark := mks_next Tolerance.mark Tolerance.cost hlt k
      rw [hdrop, List.flatMap_append, List.flatMap_cons] at hown
      have Hmark := Lib.hid hmark
      have HL := Lib.hid (show ((mks Tolerance.mark Tolerance.cost (l.take j) k).flatMap Tolerance.row).length = j * 4 by rw [flat_length' Tolerance.row_length, mks_length, List.length_take]; congr 1; omega)
      have Hnext := Lib.hid hnext
      obtain ⟨a0, a1, a2, a3, hx⟩ : ∃ a0 a1 a2 a3, l[j] = Tolerance.mk a0 a1 a2 a3 := ⟨l[j].key, l[j].equal, l[j].value, l[j].effect, rfl⟩
      rw [hx] at hown Hmark Hnext hnext
      rw [show Tolerance.cost (Tolerance.mk a0 a1 a2 a3) = 4 from rfl] at Hnext hnext
      generalize wsum Tolerance.cost (l.take j) = C0 at *
      have hkk : k + C0 + 4 ≤ 4611686018427387904 := by omega
      clear hmark hnext hall hx hdrop
      obtain ⟨K, hK⟩ : ∃ K, k + C0 = K := ⟨_, rfl⟩
      rw [hK] at hkk Hmark ⊢
      have hK0 : 0 ≤ K := by omega
      have HK := Lib.hid hK
      clear hK
      generalize hLL : (mks Tolerance.mark Tolerance.cost (l.take j) k).flatMap Tolerance.row = L at *
      generalize hRR : (l.drop (j + 1)).flatMap Tolerance.row = R at *
      have hown0 : Own wr B (f + 1) (.slice (some ⟨g, 0, none⟩) l.length c) (.sl 4 l.length (mid L (Tolerance.row (Tolerance.mk a0 a1 a2 a3)) R)) F := hown
      clear hown
      cases f with
      | zero =>
        obtain ⟨_, _, _, _, ho, _⟩ := Own.field hown0 hnd HL.out (r := 0) rfl
        exact ho.elim
      | succ f =>
      have HMT := Lib.hid (fun m w hm => lawMark.mark_text m w hm)
      have e2 : (K + 1) + 1 = K + 2 := by omega
      have e3 : (K + 2) + 1 = K + 3 := by omega
      have e4 : (K + 3) + 1 = K + 4 := by omega
      go_wp2_with fail
      refine (HMT.out K _ (by omega)).mono ?_
      rintro e x1 ⟨rfl, hb1⟩
      have on1 := Own.below hown0 hb1
      have kn1 := KeptBut.trans hkb (KeptBut.of_below hb1)
      clear hb1 hown0 hkb
      obtain ⟨o0, b0, ⟨q0, p0⟩, f0⟩ := Own.put (r := 0) (d' := .str (lawMark.mt K)) (u' := .string (lawMark.mt K)) on1 hnd HL.out rfl trivial (fun w' => own_str (lawMark.mt_size _ (by omega)))
      have k0 := KeptBut.trans kn1 b0
      simp only [Nat.add_zero] at o0 k0 p0 f0 b0
      clear b0 on1 kn1
      obtain ⟨o1, b1, ⟨q1, p1⟩, f1⟩ := Own.put (r := 1) (d' := .bool (decide ((K + 1) % 3 = 0))) (u' := .bool ((K + 1) % 3 == 0)) o0 hnd HL.out rfl trivial (fun w' => by rw [show ((K + 1) % 3 == 0) = decide ((K + 1) % 3 = 0) from rfl]; exact own_bool)
      have k1 := KeptBut.trans k0 b1
      clear b1 o0 k0
      have Ho2 := Lib.hid o1
      have Hkb2 := Lib.hid k1
      clear o1 k1
      go_wp2_with fail
      refine (HMT.out (K + 2) _ (by omega)).mono ?_
      rintro e x2 ⟨rfl, hb2⟩
      have on2 := Own.below Ho2.out hb2
      have kn2 := KeptBut.trans Hkb2.out (KeptBut.of_below hb2)
      clear p0 f0 p1 f1 hb2 Ho2 Hkb2
      obtain ⟨o2, b2, ⟨q2, p2⟩, f2⟩ := Own.put (r := 2) (d' := .str (lawMark.mt (K + 2))) (u' := .string (lawMark.mt (K + 2))) on2 hnd HL.out rfl trivial (fun w' => own_str (lawMark.mt_size _ (by omega)))
      have k2 := KeptBut.trans kn2 b2
      clear b2 on2 kn2
      obtain ⟨o3, b3, ⟨q3, p3⟩, f3⟩ := Own.put (r := 3) (d' := .int .i64 (K + 3)) (u' := .int .i64 (K + 3)) o2 hnd HL.out rfl trivial (fun w' => own_int (lawMark.wf_of (by omega) (by omega)))
      have k3 := KeptBut.trans k2 b3
      clear b3 o2 k2
      have Ho9 : Hid (Own ((x2.setCell ⟨g, j * 4 + 2, none⟩ (.string (lawMark.mt (K + 2)))).setCell ⟨g, j * 4 + 3, none⟩ (.int .i64 (K + 3))) B (f + 1 + 1) (.slice (some ⟨g, 0, none⟩) l.length c) (.sl 4 l.length ((mks Tolerance.mark Tolerance.cost (l.take (j + 1)) k ++ l.drop (j + 1)).flatMap Tolerance.row)) F) := by
        unfold Hid
        rw [Hmark.out, List.flatMap_append, List.flatMap_cons, hLL, hRR]
        exact o3
      have Hkb9 := Lib.hid k3
      clear o3 k3 HMT
      go_wp2_with fail
      go_roundw
      case rel => exact ⟨j + 1, by omega, by go_num, by rw [Hnext.out]; have := HK.out; congr 1; omega, Ho9.out, Hkb9.out⟩
      case measure => simp [intOf]; omega
    · obtain rfl : j = l.length := by omega
      rw [List.take_of_length_le (Nat.le_refl _), List.drop_of_length_le (Nat.le_refl _), List.append_nil] at hown
      have Hown := Lib.hid hown
      have Hkb := Lib.hid hkb
      clear hown hkb
      rw [List.take_of_length_le (Nat.le_refl _)]
      go_wp2_with fail
      go_ret
      exact ⟨rfl, Hown.out, Hkb.out⟩
end Go.Proofs.YtcfbkfmkjggcdaaGreatDoor.ty
namespace Go.Proofs.YtcfbkfmkjggcdaaGreatDoor.ty
open Go.ChangeShapes Go.WideShapes Go.ChangeAt Go.RowKit
set_option linter.unusedVariables false

set_option maxRecDepth 100000 in
set_option maxHeartbeats 16000000 in
theorem mkPod (x : Pod) (B f : Nat) (us : List Value) (F : List Nat) (k : Int) (w : World) (hown : OwnS w B (f + 1) us x.row F) (hnd : F.Nodup) (h0 : 0 ≤ k) (hk : k + (x.kost : Nat) ≤ 4611686018427387904) :
    Calls Tryz.prog 23 #[.agg us.toArray, .int .i64 k] w fun e w' => e = .returned (.int .i64 (k + (x.kost : Nat))) ∧ OwnS w' B (f + 1) us (x.stamp k).row F ∧ KeptBut F w w' := by
  obtain ⟨a0, a1, a2, a3, a4, a5, a6⟩ := x
  rw [Pod.row_stamp]
  rw [Pod.kost_eq] at hk ⊢
  have h := hown
  unfold Pod.row at h
  simp only at h
  obtain ⟨v0, us, F0, F', rfl, rfl, o0, h⟩ := h.uncons
  obtain ⟨v1, us, F1, F', rfl, rfl, o1, h⟩ := h.uncons
  obtain ⟨v2, us, F2, F', rfl, rfl, o2, h⟩ := h.uncons
  obtain ⟨v3, us, F3, F', rfl, rfl, o3, h⟩ := h.uncons
  obtain ⟨v4, us, F4, F', rfl, rfl, o4, h⟩ := h.uncons
  obtain ⟨v5, us, F5, F', rfl, rfl, o5, h⟩ := h.uncons
  obtain ⟨v6, us, F6, F', rfl, rfl, o6, h⟩ := h.uncons
  obtain ⟨rfl, rfl⟩ := h.unnil
  obtain ⟨⟨rfl, w0⟩, rfl⟩ := o0
  obtain ⟨A1, c1, rfl, _, _, _⟩ := o1.lies.sl
  obtain ⟨⟨rfl, w2⟩, rfl⟩ := o2
  obtain ⟨⟨rfl, w3⟩, rfl⟩ := o3
  obtain ⟨⟨rfl, w4⟩, rfl⟩ := o4
  obtain ⟨A5, c5, rfl, _, _, _⟩ := o5.lies.sl
  obtain ⟨A6, c6, rfl, _, _, _⟩ := o6.lies.sl
  clear hown
  simp only [List.nil_append, List.append_nil] at hnd ⊢
  obtain ⟨n1, hnd, d1⟩ := List.nodup_append.1 hnd
  obtain ⟨n5, n6, d5⟩ := List.nodup_append.1 hnd
  obtain ⟨w1, hw1⟩ : ∃ w1, w1 = w.alloc (.cells #[.string a0, .slice A1 a1.length c1, .int .i64 a2, .int .i64 a3, .int .i64 a4, .slice A5 a5.length c5, .slice A6 a6.length c6] 28) := ⟨_, rfl⟩
  have hb1 : Below w.heap.size w w1 := by rw [hw1]; exact (Below.refl _ _).alloc (Nat.le_refl _) _
  have R1 : RowE 28 w1 w.heap.size [.string a0, .slice A1 a1.length c1, .int .i64 a2, .int .i64 a3, .int .i64 a4, .slice A5 a5.length c5, .slice A6 a6.length c6] := by rw [hw1]; exact RowE.new _ _ _
  have g1 := o1.range
  have o1 := o1.below hb1
  have g5 := o5.range
  have o5 := o5.below hb1
  have g6 := o6.range
  have o6 := o6.below hb1
  have KB1 : KeptBut (F1 ++ (F5 ++ (F6))) w w1 := KeptBut.of_below hb1
  have p1 := R1.cell 1 _ rfl
  have p5 := R1.cell 5 _ rfl
  have p6 := R1.cell 6 _ rfl
  have C1 : 0 ≤ k ∧ k + (wsum Label.cost a1 : Nat) ≤ 4611686018427387904 := by constructor <;> omega
  have C5 : 0 ≤ k + (wsum Label.cost a1 : Nat) ∧ k + (wsum Label.cost a1 : Nat) + (wsum Need.cost a5 : Nat) ≤ 4611686018427387904 := by constructor <;> omega
  have C6 : 0 ≤ k + (wsum Label.cost a1 : Nat) + (wsum Need.cost a5 : Nat) ∧ k + (wsum Label.cost a1 : Nat) + (wsum Need.cost a5 : Nat) + (wsum Tolerance.cost a6 : Nat) ≤ 4611686018427387904 := by constructor <;> omega
  have T1 := Lib.hid (fun w' ho => mkLabelS B (.slice A1 a1.length c1) a1 f F1 (k) w' ho n1 C1.1 C1.2)
  have T5 := Lib.hid (fun w' ho => mkNeedS B (.slice A5 a5.length c5) a5 f F5 (k + (wsum Label.cost a1 : Nat)) w' ho n5 C5.1 C5.2)
  have T6 := Lib.hid (fun w' ho => mkToleranceS B (.slice A6 a6.length c6) a6 f F6 (k + (wsum Label.cost a1 : Nat) + (wsum Need.cost a5 : Nat)) w' ho n6 C6.1 C6.2)
  have D1_5 : ∀ y ∈ F5, y ∉ F1 := fun y hy hx => d1 y hx y (List.mem_append_left _ hy) rfl
  have D1_6 : ∀ y ∈ F6, y ∉ F1 := fun y hy hx => d1 y hx y (List.mem_append_right _ hy) rfl
  have D5_6 : ∀ y ∈ F6, y ∉ F5 := fun y hy hx => d5 y hx y hy rfl
  have Hw1 := Lib.hid hw1
  clear hw1 h0 hk d1 d5 C1 C5 C6
  have G1 := Lib.hid g1
  clear g1
  have G5 := Lib.hid g5
  clear g5
  have G6 := Lib.hid g6
  clear g6
  go_enter Tryz.func23, Tryz.ntmps23
  go_wp2_with fail
  rw [← Hw1.out]
  clear Hw1
  refine (T1.out _ o1).mono ?_
  rintro e y1 ⟨rfl, O1, kb1⟩
  have KB11 : KeptBut (F1 ++ (F5 ++ (F6))) w y1 := KB1.trans (kb1.mono fun x hx => List.mem_append_left _ hx)
  have R11 := (kb1.block w.heap.size (heap_lt R1) (fun hx => by have := (G1.out _ hx).2; omega)).trans R1
  have R11 : RowE 28 y1 w.heap.size [.string a0, .slice A1 a1.length c1, .int .i64 a2, .int .i64 a3, .int .i64 a4, .slice A5 a5.length c5, .slice A6 a6.length c6] := R11
  have Q5_1 := Own.kept (fun x hx => kb1.block x (Own.range o5 x hx).2 (D1_5 x hx)) o5
  have Q6_1 := Own.kept (fun x hx => kb1.block x (Own.range o6 x hx).2 (D1_6 x hx)) o6
  clear p1 p5 p6 kb1
  have p5_1 := R11.cell 5 _ rfl
  have p6_1 := R11.cell 6 _ rfl
  go_wp2_with fail
  refine (T5.out _ Q5_1).mono ?_
  rintro e y5 ⟨rfl, O5, kb5⟩
  have KB15 : KeptBut (F1 ++ (F5 ++ (F6))) w y5 := KB11.trans (kb5.mono fun x hx => List.mem_append_right _ (List.mem_append_left _ hx))
  have R15 := (kb5.block w.heap.size (heap_lt R11) (fun hx => by have := (G5.out _ hx).2; omega)).trans R11
  have R15 : RowE 28 y5 w.heap.size [.string a0, .slice A1 a1.length c1, .int .i64 a2, .int .i64 a3, .int .i64 a4, .slice A5 a5.length c5, .slice A6 a6.length c6] := R15
  have Q1_5 := Own.kept (fun x hx => kb5.block x (Own.range O1 x hx).2 (fun hy => D1_5 x hy hx)) O1
  have Q6_5 := Own.kept (fun x hx => kb5.block x (Own.range Q6_1 x hx).2 (D5_6 x hx)) Q6_1
  clear p5_1 p6_1 kb5
  have p6_5 := R15.cell 6 _ rfl
  go_wp2_with fail
  refine (T6.out _ Q6_5).mono ?_
  rintro e y6 ⟨rfl, O6, kb6⟩
  have KB16 : KeptBut (F1 ++ (F5 ++ (F6))) w y6 := KB15.trans (kb6.mono fun x hx => List.mem_append_right _ (List.mem_append_right _ hx))
  have R16 := (kb6.block w.heap.size (heap_lt R15) (fun hx => by have := (G6.out _ hx).2; omega)).trans R15
  have R16 : RowE 28 y6 w.heap.size [.string a0, .slice A1 a1.length c1, .int .i64 a2, .int .i64 a3, .int .i64 a4, .slice A5 a5.length c5, .slice A6 a6.length c6] := R16
  have Q1_6 := Own.kept (fun x hx => kb6.block x (Own.range Q1_5 x hx).2 (fun hy => D1_6 x hy hx)) Q1_5
  have Q5_6 := Own.kept (fun x hx => kb6.block x (Own.range O5 x hx).2 (fun hy => D5_6 x hy hx)) O5
  clear p6_5 kb6
  have HR := Lib.hid (show OwnS y6 B (f + 1) _ _ _ ∧ KeptBut (F1 ++ (F5 ++ (F6))) w y6 from ⟨OwnS.cons (own_str w0) (OwnS.cons (Q1_6) (OwnS.cons (own_int w2) (OwnS.cons (own_int w3) (OwnS.cons (own_int w4) (OwnS.cons (Q5_6) (OwnS.cons (O6) (OwnS.nil))))))), KB16⟩)
  simp only [List.nil_append, List.append_nil] at HR
  go_wp2_with fail
  go_ret
  exact ⟨rfl, HR.out⟩
end Go.Proofs.YtcfbkfmkjggcdaaGreatDoor.ty
namespace Go.Proofs.YtcfbkfmkjggcdaaGreatDoor.ty
open Go.ChangeShapes Go.WideShapes Go.ChangeAt Go.RowKit
set_option linter.unusedVariables false

set_option maxRecDepth 100000 in
set_option maxHeartbeats 8000000 in
theorem hdNeedS (l : List Need) (f : Nat) (v : Value) (k : Int) (w : World) (h : Lies w f v (.sl 3 l.length ((mks Need.mark Need.cost l k).flatMap Need.row))) (h0 : 0 ≤ k) (hkk : k + wsum Need.cost l ≤ 4611686018427387904) :
    Calls Tryz.prog 74 #[v, .int .i64 k] w fun e w' => e = .returned (.int .i64 (k + wsum Need.cost l)) ∧ Below w.heap.size w w' := by
  have hml := mks_length Need.mark Need.cost l k
  rw [← hml] at h
  obtain ⟨A, c, rfl, hc1, hc2, f', rfl, hk⟩ := els_of Need.row_length h
  rw [hml] at hc1 ⊢
  unfold maxLen at hc2
  have Hk := Lib.hid hk
  have Hml := Lib.hid hml
  clear h hk hml
  go_enter Tryz.func74, Tryz.ntmps74
  go_wp2_with fail
  go_loopw [1, 5] (fun a i wr => ∃ (j : Nat), j ≤ l.length ∧ i = .int .i64 j ∧ a = .int .i64 (k + wsum Need.cost (l.take j)) ∧ Below w.heap.size w wr) (fun _ i _ => l.length - (intOf i).toNat)
  case atStart => exact ⟨0, Nat.zero_le _, rfl, by simp [wsum], Below.refl _ _⟩
  case round =>
    obtain ⟨j, hj, rfl, rfl, hbel⟩ := hrel
    by_cases hlt : j < l.length
    · obtain ⟨g, o, rfl, hg, hcc⟩ := (Hk.out.below hbel) (by rw [Hml.out]; omega)
      obtain ⟨us, hus, hc, hls⟩ := hcc j _ (mks_get Need.mark Need.cost hlt k)
      have hnext := wsum_take Need.cost hlt
      have hall := wsum_all Need.cost l (j + 1)
      have Hnext := Lib.hid hnext
      obtain ⟨a0, a1, a2, hx⟩ : ∃ a0 a1 a2, l[j] = Need.mk a0 a1 a2 := ⟨l[j].key, l[j].op, l[j].values, rfl⟩
      rw [hx] at hls Hnext hnext
      rw [show Need.cost (Need.mk a0 a1 a2) = 2 + wsum Str.cost a2 from rfl] at Hnext hnext
      generalize wsum Need.cost (l.take j) = C0 at *
      have hkk2 : k + C0 + ((2 + wsum Str.cost a2 : Nat) : Int) ≤ 4611686018427387904 := by omega
      obtain ⟨K, hK⟩ : ∃ K, k + C0 = K := ⟨_, rfl⟩
      rw [hK] at hls hkk2 ⊢
      obtain ⟨A2, c2, rfl, hwf, k2, m2, l2⟩ := Need.opened hls
      simp only [Need.mark, mks_length] at k2 l2 hc
      have q0 : wr.cell? ⟨g, o + j * 3, none⟩ = some (.string (lawMark.mt (K))) := hc 0 _ rfl
      have q1 : wr.cell? ⟨g, o + j * 3 + 1, none⟩ = some (.int .i64 (K + 1)) := hc 1 _ rfl
      have e1 : (K + 1) + 1 = K + 2 := by omega
      have q2 : wr.cell? ⟨g, o + j * 3 + 2, none⟩ = some (.slice A2 a2.length c2) := hc 2 _ rfl
      have HS2 := Lib.hid (fun w1 (hb : Below wr.heap.size wr w1) => hdStr a2 _ (.slice A2 a2.length c2) (K + 2) w1 (l2.below hb) (by omega) (by omega))
      have HK := Lib.hid hK
      have hK0 : 0 ≤ K := by omega
      have HMT := Lib.hid (fun m w hm => lawMark.mark_text m w hm)
      have Hbel := Lib.hid hbel
      have Hw0 := Lib.hid (Below.refl wr.heap.size wr)
      clear hcc hus hc hls hwf hnext hall hbel hK hx k2 m2 l2
      go_wp2_with fail
      go_region_law (go_simp; go_at_call 134; refine (HMT.out (K) _ (by omega)).mono ?_; rintro e y0 ⟨rfl, hb0⟩; have r0_0 : y0.cell? ⟨g, o + j * 3, none⟩ = some (.string (lawMark.mt (K))) := (hb0.cell (p := ⟨g, o + j * 3, none⟩) hg).trans q0; have r0_1 : y0.cell? ⟨g, o + j * 3 + 1, none⟩ = some (.int .i64 (K + 1)) := (hb0.cell (p := ⟨g, o + j * 3 + 1, none⟩) hg).trans q1; have r0_2 : y0.cell? ⟨g, o + j * 3 + 2, none⟩ = some (.slice A2 a2.length c2) := (hb0.cell (p := ⟨g, o + j * 3 + 2, none⟩) hg).trans q2)
      all_goals
        have hg1 : g < y0.heap.size := Nat.lt_of_lt_of_le hg hb0.size
        have Hw1 := Lib.hid (below_link Hw0.out ((Below.refl _ _).drew.trans (hb0.mono (Nat.le_refl _))) (Below.size Hw0.out))
        clear hb0 q0 q1 q2
        go_wp2_with fail
        refine (HS2.out _ Hw1.out).mono ?_
        rintro e y2 ⟨rfl, hb2⟩
        have hg3 : g < y2.heap.size := Nat.lt_of_lt_of_le hg1 hb2.size
        have Hw3 := Lib.hid (below_link Hw1.out hb2 (Below.size Hw1.out))
        clear hb2 r0_0 r0_1 r0_2
        have Hbz := Lib.hid (below_link Hbel.out Hw3.out (Below.size Hbel.out))
        go_wp2_with fail
        go_roundw
        case rel => exact ⟨j + 1, by omega, by go_num, by rw [Hnext.out]; have := HK.out; congr 1; omega, Hbz.out⟩
        case measure => simp [intOf]; omega
    · obtain rfl : j = l.length := by omega
      rw [List.take_of_length_le (Nat.le_refl _)]
      have Hbel := Lib.hid hbel
      clear hbel
      go_wp2_with fail
      go_ret
      exact ⟨rfl, Hbel.out⟩
end Go.Proofs.YtcfbkfmkjggcdaaGreatDoor.ty
namespace Go.Proofs.YtcfbkfmkjggcdaaGreatDoor.ty
open Go.ChangeShapes Go.WideShapes Go.ChangeAt Go.RowKit
set_option linter.unusedVariables false

set_option maxRecDepth 100000 in
set_option maxHeartbeats 8000000 in
theorem hdToleranceS (l : List Tolerance) (f : Nat) (v : Value) (k : Int) (w : World) (h : Lies w f v (.sl 4 l.length ((mks Tolerance.mark Tolerance.cost l k).flatMap Tolerance.row))) (h0 : 0 ≤ k) (hkk : k + wsum Tolerance.cost l ≤ 4611686018427387904) :
    Calls Tryz.prog 75 #[v, .int .i64 k] w fun e w' => e = .returned (.int .i64 (k + wsum Tolerance.cost l)) ∧ Below w.heap.size w w' := by
  have hml := mks_length Tolerance.mark Tolerance.cost l k
  rw [← hml] at h
  obtain ⟨A, c, rfl, hc1, hc2, f', rfl, hk⟩ := els_of Tolerance.row_length h
  rw [hml] at hc1 ⊢
  unfold maxLen at hc2
  have Hk := Lib.hid hk
  have Hml := Lib.hid hml
  clear h hk hml
  go_enter Tryz.func75, Tryz.ntmps75
  go_wp2_with fail
  go_loopw [1, 5] (fun a i wr => ∃ (j : Nat), j ≤ l.length ∧ i = .int .i64 j ∧ a = .int .i64 (k + wsum Tolerance.cost (l.take j)) ∧ Below w.heap.size w wr) (fun _ i _ => l.length - (intOf i).toNat)
  case atStart => exact ⟨0, Nat.zero_le _, rfl, by simp [wsum], Below.refl _ _⟩
  case round =>
    obtain ⟨j, hj, rfl, rfl, hbel⟩ := hrel
    by_cases hlt : j < l.length
    · obtain ⟨g, o, rfl, hg, hcc⟩ := (Hk.out.below hbel) (by rw [Hml.out]; omega)
      obtain ⟨us, hus, hc, hls⟩ := hcc j _ (mks_get Tolerance.mark Tolerance.cost hlt k)
      obtain ⟨rfl, hwf⟩ := Tolerance.opened hls
      have hnext := wsum_take Tolerance.cost hlt
      have hall := wsum_all Tolerance.cost l (j + 1)
      have Hnext := Lib.hid hnext
      rw [show Tolerance.cost l[j] = 4 from rfl] at Hnext hnext
      generalize wsum Tolerance.cost (l.take j) = C0 at *
      have hkk2 : k + C0 + 4 ≤ 4611686018427387904 := by omega
      obtain ⟨K, hK⟩ : ∃ K, k + C0 = K := ⟨_, rfl⟩
      rw [hK] at hc hkk2 ⊢
      have q0 : wr.cell? ⟨g, o + j * 4, none⟩ = some (.string (lawMark.mt K)) := hc 0 _ rfl
      have q1 : wr.cell? ⟨g, o + j * 4 + 1, none⟩ = some (.bool (decide ((K + 1) % 3 = 0))) := hc 1 _ rfl
      rw [show decide ((K + 1) % 3 = 0) = ((K + 1) % 3 == 0) from rfl] at q1
      have ef1 : (((K + 1) % 3 == 0) == ((K + 1) % 3 == 0)) = true := by simp
      have q2 : wr.cell? ⟨g, o + j * 4 + 2, none⟩ = some (.string (lawMark.mt (K + 2))) := hc 2 _ rfl
      have q3 : wr.cell? ⟨g, o + j * 4 + 3, none⟩ = some (.int .i64 (K + 3)) := hc 3 _ rfl
      have e2 : (K + 1) + 1 = K + 2 := by omega
      have e3 : (K + 2) + 1 = K + 3 := by omega
      have e4 : (K + 3) + 1 = K + 4 := by omega
      have HK := Lib.hid hK
      have hK0 : 0 ≤ K := by omega
      have HMT := Lib.hid (fun m w hm => lawMark.mark_text m w hm)
      have Hbel := Lib.hid hbel
      clear hcc hus hc hls hwf hnext hall hbel hK
      go_wp2_with fail
      go_region_law (go_simp; go_at_call 134; refine (HMT.out K _ (by omega)).mono ?_; rintro e y1 ⟨rfl, hb1⟩; have r1_0 : y1.cell? ⟨g, o + j * 4, none⟩ = some (.string (lawMark.mt K)) := (hb1.cell (p := ⟨g, o + j * 4, none⟩) hg).trans q0; have r1_1 : y1.cell? ⟨g, o + j * 4 + 1, none⟩ = some (.bool ((K + 1) % 3 == 0)) := (hb1.cell (p := ⟨g, o + j * 4 + 1, none⟩) hg).trans q1; have r1_2 : y1.cell? ⟨g, o + j * 4 + 2, none⟩ = some (.string (lawMark.mt (K + 2))) := (hb1.cell (p := ⟨g, o + j * 4 + 2, none⟩) hg).trans q2; have r1_3 : y1.cell? ⟨g, o + j * 4 + 3, none⟩ = some (.int .i64 (K + 3)) := (hb1.cell (p := ⟨g, o + j * 4 + 3, none⟩) hg).trans q3)
      all_goals
        have hg1 : g < y1.heap.size := Nat.lt_of_lt_of_le hg hb1.size
        have Hbel1 := Lib.hid (below_link Hbel.out ((Below.refl _ _).drew.trans (hb1.mono (Nat.le_refl _))) (Below.size Hbel.out))
        clear hb1 q0 q1 q2 q3
        go_wp2_with fail
        go_region_law (go_simp; go_at_call 134; refine (HMT.out (K + 2) _ (by omega)).mono ?_; rintro e y2 ⟨rfl, hb2⟩; have r2_2 : y2.cell? ⟨g, o + j * 4 + 2, none⟩ = some (.string (lawMark.mt (K + 2))) := (hb2.cell (p := ⟨g, o + j * 4 + 2, none⟩) hg1).trans r1_2; have r2_3 : y2.cell? ⟨g, o + j * 4 + 3, none⟩ = some (.int .i64 (K + 3)) := (hb2.cell (p := ⟨g, o + j * 4 + 3, none⟩) hg1).trans r1_3)
        all_goals
          have hg2 : g < y2.heap.size := Nat.lt_of_lt_of_le hg1 hb2.size
          have Hbel2 := Lib.hid (below_link Hbel1.out ((Below.refl _ _).drew.trans (hb2.mono (Nat.le_refl _))) (Below.size Hbel1.out))
          clear hb2 r1_0 r1_1 r1_2 r1_3
          go_wp2_with fail
          go_roundw
          case rel => exact ⟨j + 1, by omega, by go_num, by rw [Hnext.out]; have := HK.out; congr 1; omega, Hbel2.out⟩
          case measure => simp [intOf]; omega
    · obtain rfl : j = l.length := by omega
      rw [List.take_of_length_le (Nat.le_refl _)]
      have Hbel := Lib.hid hbel
      clear hbel
      go_wp2_with fail
      go_ret
      exact ⟨rfl, Hbel.out⟩
end Go.Proofs.YtcfbkfmkjggcdaaGreatDoor.ty
namespace Go.Proofs.YtcfbkfmkjggcdaaGreatDoor.ty
open Go.ChangeShapes Go.WideShapes Go.ChangeAt Go.RowKit
set_option linter.unusedVariables false

set_option maxRecDepth 100000 in
set_option maxHeartbeats 16000000 in
theorem hdPod (x : Pod) (f : Nat) (us : List Value) (k : Int) (w : World) (h : LiesS w f us (x.stamp k).row) (h0 : 0 ≤ k) (hk : k + (x.kost : Nat) ≤ 4611686018427387904) :
    Calls Tryz.prog 24 #[.agg us.toArray, .int .i64 k] w fun e w' => e = .returned (.int .i64 (k + (x.kost : Nat))) ∧ Below w.heap.size w w' := by
  obtain ⟨a0, a1, a2, a3, a4, a5, a6⟩ := x
  rw [Pod.row_stamp] at h
  rw [Pod.kost_eq] at hk ⊢
  obtain ⟨v0, us, rfl, l0, h⟩ := h.uncons
  obtain ⟨v1, us, rfl, l1, h⟩ := h.uncons
  obtain ⟨v2, us, rfl, l2, h⟩ := h.uncons
  obtain ⟨v3, us, rfl, l3, h⟩ := h.uncons
  obtain ⟨v4, us, rfl, l4, h⟩ := h.uncons
  obtain ⟨v5, us, rfl, l5, h⟩ := h.uncons
  obtain ⟨v6, us, rfl, l6, h⟩ := h.uncons
  obtain rfl := h.unnil
  obtain ⟨rfl, _⟩ := l0.str
  obtain ⟨A1, c1, rfl, _, _, _⟩ := l1.sl
  obtain ⟨rfl, _⟩ := l2.int
  obtain ⟨rfl, _⟩ := l3.int
  obtain ⟨rfl, _⟩ := l4.int
  obtain ⟨A5, c5, rfl, _, _, _⟩ := l5.sl
  obtain ⟨A6, c6, rfl, _, _, _⟩ := l6.sl
  obtain ⟨w1, hw1⟩ : ∃ w1, w1 = w.alloc (.cells #[.string a0, .slice A1 a1.length c1, .int .i64 a2, .int .i64 a3, .int .i64 a4, .slice A5 a5.length c5, .slice A6 a6.length c6] 28) := ⟨_, rfl⟩
  have hb1 : Below w.heap.size w w1 := by rw [hw1]; exact (Below.refl _ _).alloc (Nat.le_refl _) _
  have R1 := Lib.hid (show RowE 28 w1 w.heap.size [.string a0, .slice A1 a1.length c1, .int .i64 a2, .int .i64 a3, .int .i64 a4, .slice A5 a5.length c5, .slice A6 a6.length c6] by rw [hw1]; exact RowE.new _ _ _)
  have p1 := R1.out.cell 1 _ rfl
  have C1 : 0 ≤ k ∧ k + (wsum Label.cost a1 : Nat) ≤ 4611686018427387904 := by constructor <;> omega
  have N1 : ¬ k + (wsum Label.cost a1 : Nat) < 0 := by omega
  have T1 := Lib.hid (fun w' (hb : Below w.heap.size w w') => hdLabelS a1 f (.slice A1 a1.length c1) (k) w' (l1.below hb) C1.1 C1.2)
  have C5 : 0 ≤ k + (wsum Label.cost a1 : Nat) ∧ k + (wsum Label.cost a1 : Nat) + (wsum Need.cost a5 : Nat) ≤ 4611686018427387904 := by constructor <;> omega
  have N5 : ¬ k + (wsum Label.cost a1 : Nat) + (wsum Need.cost a5 : Nat) < 0 := by omega
  have T5 := Lib.hid (fun w' (hb : Below w.heap.size w w') => hdNeedS a5 f (.slice A5 a5.length c5) (k + (wsum Label.cost a1 : Nat)) w' (l5.below hb) C5.1 C5.2)
  have C6 : 0 ≤ k + (wsum Label.cost a1 : Nat) + (wsum Need.cost a5 : Nat) ∧ k + (wsum Label.cost a1 : Nat) + (wsum Need.cost a5 : Nat) + (wsum Tolerance.cost a6 : Nat) ≤ 4611686018427387904 := by constructor <;> omega
  have N6 : ¬ k + (wsum Label.cost a1 : Nat) + (wsum Need.cost a5 : Nat) + (wsum Tolerance.cost a6 : Nat) < 0 := by omega
  have T6 := Lib.hid (fun w' (hb : Below w.heap.size w w') => hdToleranceS a6 f (.slice A6 a6.length c6) (k + (wsum Label.cost a1 : Nat) + (wsum Need.cost a5 : Nat)) w' (l6.below hb) C6.1 C6.2)
  have Hb1 := Lib.hid hb1
  have Hw1 := Lib.hid hw1
  clear h0 hk hb1 hw1 C1 C5 C6 l1 l5 l6
  go_enter Tryz.func24, Tryz.ntmps24
  go_wp2_with fail
  rw [← Hw1.out]
  clear Hw1
  refine (T1.out _ Hb1.out).mono ?_
  rintro e y1 ⟨rfl, b1⟩
  have Hb11 := Lib.hid (below_link Hb1.out b1 Hb1.out.size)
  have R11 := Lib.hid (R1.out.below b1)
  clear b1 p1
  have p5 := R11.out.cell 5 _ rfl
  go_wp2_with fail
  refine (T5.out _ Hb11.out).mono ?_
  rintro e y5 ⟨rfl, b5⟩
  have Hb15 := Lib.hid (below_link Hb11.out b5 Hb11.out.size)
  have R15 := Lib.hid (R11.out.below b5)
  clear b5 p5
  have p6 := R15.out.cell 6 _ rfl
  go_wp2_with fail
  refine (T6.out _ Hb15.out).mono ?_
  rintro e y6 ⟨rfl, b6⟩
  have Hb16 := Lib.hid (below_link Hb15.out b6 Hb15.out.size)
  have R16 := Lib.hid (R15.out.below b6)
  clear b6 p6
  go_wp2_with fail
  go_ret
  exact ⟨rfl, Hb16.out⟩
end Go.Proofs.YtcfbkfmkjggcdaaGreatDoor.ty
namespace Go.Proofs.YtcfbkfmkjggcdaaGreatDoor.ty
open Go.ChangeShapes Go.WideShapes Go.ChangeAt Go.RowKit
set_option linter.unusedVariables false

theorem szStr (ks : List ByteArray) (f : Nat) (v : Value) (left : Int) (w : World) (h : Lies w f v (.sl 1 ks.length (ks.flatMap Str.row))) (hl : LeftN left) :
    Calls Tryz.prog 187 #[v, .int .i64 left] w fun e w' => e = .returned (.int .i64 (cutN left (ks.length + wsum Str.wt ks))) ∧ Below w.heap.size w w' := by
  obtain ⟨A, c, rfl, hc, hm, hr, hks⟩ := Str.opened h
  unfold maxLen at hm
  unfold LeftN at hl
  have Hr := Lib.hid hr
  have Hks := Lib.hid hks
  clear hr hks h
  by_cases h0 : left < ks.length
  · have He := Lib.hid (cutN_no (show left < ((ks.length + wsum Str.wt ks : Nat) : Int) by omega))
    go_enter Tryz.func187, Tryz.ntmps187
    go_wp2_with fail
    go_ret
    exact ⟨by rw [He.out]; rfl, Below.refl _ _⟩
  · go_enter Tryz.func187, Tryz.ntmps187
    go_wp2_with fail
    go_loop [1, 5] (fun a i => ∃ (j : Nat) (l : Int), j ≤ ks.length ∧ i = .int .i64 j ∧ a = .int .i64 l ∧ 0 ≤ l ∧ l ≤ 1048576 ∧ Hid (l = left - ks.length - wsum Str.wt (ks.take j))) (fun _ i => ks.length - (intOf i).toNat)
    case atStart => exact ⟨0, left - ks.length, Nat.zero_le _, rfl, rfl, by omega, by omega, by unfold Hid; simp [wsum]⟩
    case round =>
      obtain ⟨j, l, hj, rfl, rfl, hl0, hl1, hin⟩ := hrel
      by_cases hlt : j < ks.length
      · obtain ⟨g, o, rfl, hg, hc0⟩ := Hr.out.2 (by omega)
        have hcell := hc0 j hlt _ (scells_get ks j hlt)
        have hsz := Hks.out ks[j] (List.getElem_mem hlt)
        unfold maxLen at hsz
        have hnext : wsum Str.wt (ks.take (j + 1)) = wsum Str.wt (ks.take j) + ks[j].size := wsum_take Str.wt hlt
        have hall := wsum_all Str.wt ks (j + 1)
        clear hc0 hg
        by_cases h1 : l < ks[j].size
        · have He := Lib.hid (cutN_no (show left < ((ks.length + wsum Str.wt ks : Nat) : Int) by have := hin.out; omega))
          clear hnext hall hin
          generalize ks[j] = x at hcell hsz h1
          go_wp2_with fail
          go_ret
          exact ⟨by rw [He.out]; rfl, Below.refl _ _⟩
        · have Hin := Lib.hid (show l - ks[j].size = left - ks.length - wsum Str.wt (ks.take (j + 1)) by have := hin.out; omega)
          clear hnext hall hin
          generalize ks[j] = x at hcell hsz h1 Hin
          go_wp2_with fail
          go_round
          case rel => exact ⟨j + 1, l - x.size, by omega, by go_num, rfl, by omega, by omega, Hin.out⟩
          case measure => simp [intOf]; omega
      · obtain rfl : j = ks.length := by omega
        rw [List.take_of_length_le (Nat.le_refl _)] at hin
        have He := Lib.hid (cutN_yes (show ¬ left < ((ks.length + wsum Str.wt ks : Nat) : Int) by have := hin.out; omega))
        have Hin := Lib.hid (show left - ((ks.length + wsum Str.wt ks : Nat) : Int) = l by have := hin.out; omega)
        clear hin
        go_wp2_with fail
        go_ret
        exact ⟨by rw [He.out, Hin.out]; rfl, Below.refl _ _⟩
end Go.Proofs.YtcfbkfmkjggcdaaGreatDoor.ty
namespace Go.Proofs.YtcfbkfmkjggcdaaGreatDoor.ty
open Go.ChangeShapes Go.WideShapes Go.ChangeAt Go.RowKit
set_option linter.unusedVariables false

theorem szNeed (x : Need) (f : Nat) (vs : List Value) (left : Int) (w : World) (h : LiesS w f vs x.row) (hl : LeftN left) :
    Calls Tryz.prog 126 #[.agg vs.toArray, .int .i64 left] w fun e w' => e = .returned (.int .i64 (cutN left x.wt)) ∧ Below w.heap.size w w' := by
  obtain ⟨a0, a1, a2⟩ := x
  obtain ⟨A2, c2, rfl, hwf, k2, m2, l2⟩ := Need.opened h
  simp only [Need.Wf] at *
  obtain ⟨w0, w1⟩ := hwf
  unfold maxLen at w0
  unfold LeftN at hl
  rw [show Need.wt ⟨a0, a1, a2⟩ = a0.size + (a2.length + wsum Str.wt a2) from rfl]
  have HB := Lib.hid (Box.new 147 w [.string a0, .int .i64 a1, .slice A2 a2.length c2])
  have H2 := Lib.hid (fun w1 left (hb : Below w.heap.size w w1) hl => szStr a2 f (.slice A2 a2.length c2) left w1 (l2.below hb) hl)
  clear h l2 k2 m2
  have p0 := HB.out.cell (j := 0) rfl
  have p2 := HB.out.cell (j := 2) rfl
  generalize hX2 : a2.length + wsum Str.wt a2 = X2 at H2 ⊢
  by_cases h0 : left < (a0.size : Int)
  · have He := Lib.hid (cutN_no (show left < ((a0.size + X2 : Nat) : Int) by omega))
    clear hX2 H2
    go_enter Tryz.func126, Tryz.ntmps126
    go_wp2_with fail
    go_ret
    exact ⟨by rw [He.out]; rfl, HB.out.1⟩
  by_cases h2 : left - (a0.size : Int) < (X2 : Int)
  · have He := Lib.hid (cutN_no (show left < ((a0.size + X2 : Nat) : Int) by omega))
    have J2 := Lib.hid (fun w1 hb => H2.out w1 (left - (a0.size : Int)) hb ⟨by omega, by omega⟩)
    rw [cutN_no h2] at J2
    clear hX2 H2
    go_enter Tryz.func126, Tryz.ntmps126
    go_wp2_with fail
    refine (J2.out _ HB.out.1).mono ?_
    rintro e x2 ⟨rfl, hb2⟩
    have HB2 := Lib.hid (HB.out.below hb2)
    clear hb2 J2
    go_wp2_with fail
    go_ret
    exact ⟨by rw [He.out]; rfl, HB2.out.1⟩
  have He := Lib.hid (cutN_yes (show ¬ left < ((a0.size + X2 : Nat) : Int) by omega))
  have He2 := Lib.hid (show left - ((a0.size + X2 : Nat) : Int) = left - (a0.size : Int) - (X2 : Int) by omega)
  have J2 := Lib.hid (fun w1 hb => H2.out w1 (left - (a0.size : Int)) hb ⟨by omega, by omega⟩)
  rw [cutN_yes h2] at J2
  clear hX2 H2
  go_enter Tryz.func126, Tryz.ntmps126
  go_wp2_with fail
  refine (J2.out _ HB.out.1).mono ?_
  rintro e x2 ⟨rfl, hb2⟩
  have HB2 := Lib.hid (HB.out.below hb2)
  clear hb2 J2
  go_wp2_with fail
  go_ret
  exact ⟨by rw [He.out, He2.out]; rfl, HB2.out.1⟩
end Go.Proofs.YtcfbkfmkjggcdaaGreatDoor.ty
namespace Go.Proofs.YtcfbkfmkjggcdaaGreatDoor.ty
open Go.ChangeShapes Go.WideShapes Go.ChangeAt Go.RowKit
set_option linter.unusedVariables false

theorem szNeedS (l : List Need) (f : Nat) (v : Value) (left : Int) (w : World) (h : Lies w f v (.sl 3 l.length (l.flatMap Need.row))) (hl : LeftN left) :
    Calls Tryz.prog 62 #[v, .int .i64 left] w fun e w' => e = .returned (.int .i64 (cutN left (l.length + wsum Need.wt l))) ∧ Below w.heap.size w w' := by
  obtain ⟨A, c, rfl, hc1, hc2, f', rfl, hk⟩ := els_of Need.row_length h
  unfold maxLen at hc2
  unfold LeftN at hl
  have Hk := Lib.hid hk
  clear h hk
  by_cases h0 : left < l.length
  · have He := Lib.hid (cutN_no (show left < ((l.length + wsum Need.wt l : Nat) : Int) by omega))
    go_enter Tryz.func62, Tryz.ntmps62
    go_wp2_with fail
    go_ret
    exact ⟨by rw [He.out]; rfl, Below.refl _ _⟩
  go_enter Tryz.func62, Tryz.ntmps62
  go_wp2_with fail
  go_loopw [1, 5] (fun a i wr => ∃ (j : Nat) (z : Int), j ≤ l.length ∧ i = .int .i64 j ∧ a = .int .i64 z ∧ 0 ≤ z ∧ z ≤ 1048576 ∧ Hid (z = left - l.length - wsum Need.wt (l.take j)) ∧ Below w.heap.size w wr) (fun _ i _ => l.length - (intOf i).toNat)
  case atStart => exact ⟨0, left - l.length, Nat.zero_le _, rfl, rfl, by omega, by omega, by unfold Hid; simp [wsum], Below.refl _ _⟩
  case round =>
    obtain ⟨j, z, hj, rfl, rfl, hz0, hz1, hin, hbel⟩ := hrel
    by_cases hlt : j < l.length
    · obtain ⟨g, o, rfl, hg, us, hus, hc, hls⟩ := (Hk.out.below hbel).get hlt
      have HC := Lib.hid (szNeed l[j] _ us z wr hls ⟨hz0, hz1⟩)
      obtain ⟨A2, c2, rfl, hwf, k2, m2, l2⟩ := Need.opened hls
      have q0 : wr.cell? ⟨g, o + j * 3, none⟩ = some (.string l[j].key) := hc 0 _ rfl
      have q1 : wr.cell? ⟨g, o + j * 3 + 1, none⟩ = some (.int .i64 l[j].op) := hc 1 _ rfl
      have q2 : wr.cell? ⟨g, o + j * 3 + 2, none⟩ = some (.slice A2 l[j].values.length c2) := hc 2 _ rfl
      have hnext := wsum_take Need.wt hlt
      have hall := wsum_all Need.wt l (j + 1)
      have Hbel := Lib.hid hbel
      clear hls hbel hg hus hc hwf k2 m2 l2
      by_cases h1 : z < (l[j].wt : Int)
      · have He := Lib.hid (cutN_no (show left < ((l.length + wsum Need.wt l : Nat) : Int) by have := hin.out; omega))
        rw [cutN_no h1] at HC
        clear hnext hall hin h1
        generalize l[j] = x at q0 q1 q2 HC
        go_wp2_with fail
        refine HC.out.mono ?_
        rintro e w1 ⟨rfl, hb1⟩
        have Hbel1 := Lib.hid (Hbel.out.trans (hb1.mono Hbel.out.size))
        clear hb1 q0 q1 q2
        go_wp2_with fail
        go_ret
        exact ⟨by rw [He.out]; rfl, Hbel1.out⟩
      · have Hin := Lib.hid (show z - l[j].wt = left - l.length - wsum Need.wt (l.take (j + 1)) by have := hin.out; omega)
        rw [cutN_yes h1] at HC
        clear hnext hall hin
        generalize l[j] = x at q0 q1 q2 HC h1 Hin
        generalize x.wt = y at HC h1 Hin
        go_wp2_with fail
        refine HC.out.mono ?_
        rintro e w1 ⟨rfl, hb1⟩
        have Hbel1 := Lib.hid (Hbel.out.trans (hb1.mono Hbel.out.size))
        clear hb1 q0 q1 q2
        go_wp2_with fail
        go_roundw
        case rel => exact ⟨j + 1, z - y, by omega, by go_num, rfl, by omega, by omega, Hin.out, Hbel1.out⟩
        case measure => simp [intOf]; omega
    · obtain rfl : j = l.length := by omega
      rw [List.take_of_length_le (Nat.le_refl _)] at hin
      have He := Lib.hid (cutN_yes (show ¬ left < ((l.length + wsum Need.wt l : Nat) : Int) by have := hin.out; omega))
      have Hin := Lib.hid (show left - ((l.length + wsum Need.wt l : Nat) : Int) = z by have := hin.out; omega)
      have Hbel := Lib.hid hbel
      clear hin hbel
      go_wp2_with fail
      go_ret
      exact ⟨by rw [He.out, Hin.out]; rfl, Hbel.out⟩
end Go.Proofs.YtcfbkfmkjggcdaaGreatDoor.ty
