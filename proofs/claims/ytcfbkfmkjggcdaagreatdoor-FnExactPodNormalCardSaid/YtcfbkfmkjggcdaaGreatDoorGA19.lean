/- Merged: MkToleranceSC MkPodC AscTolerance OksToleranceI OwPodC CopM. -/
import Derived.Test.YtcfbkfmkjggcdaaGreatDoorGA3
import Derived.Test.YtcfbkfmkjggcdaaGreatDoorGA2
import Derived.Test.YtcfbkfmkjggcdaaGreatDoorOwnC
import Derived.Test.YtcfbkfmkjggcdaaGreatDoorGA7
import Derived.Test.YtcfbkfmkjggcdaaGreatDoorGA6
import Derived.Test.YtcfbkfmkjggcdaaGreatDoorGA24
import Derived.Test.YtcfbkfmkjggcdaaGreatDoorGA18
import Derived.Test.YtcfbkfmkjggcdaaGreatDoorRows
import Derived.ProofKit
import Derived.OpenShut
import Derived.Test.YtcfbkfmkjggcdaaGreatDoorGA10
import Derived.Test.YtcfbkfmkjggcdaaGreatDoorGA1
import Derived.Laws.Cover1
import Derived.Test.YtcfbkfmkjggcdaaGreatDoorGA16
import Derived.Test.YtcfbkfmkjggcdaaGreatDoorCmpOI
import Derived.Test.YtcfbkfmkjggcdaaGreatDoorGA5
import Derived.Laws.CopyOwn
namespace Go.Proofs.YtcfbkfmkjggcdaaGreatDoor.ty
open Go.ChangeShapes Go.WideShapes Go.ChangeAt Go.RowKit
set_option linter.unusedVariables false

theorem mkToleranceSC_nil (A : Option Addr) (c : Nat) (k : Int) (w : World) (h0 : 0 ≤ k) (hk : k ≤ 4611686018427387904) :
    Calls Tryz.prog 72 #[.slice A 0 c, .int .i64 k] w fun e w' => e = .returned (.int .i64 k) ∧ w' = w := by
  go_enter Tryz.func72, Tryz.ntmps72
  go_wp2_with fail
  refine wp_loop_rounds 1 ?_
  rw [rounds_succ]
  go_wp2_with fail
  go_ret
  exact ⟨rfl, rfl⟩
set_option maxRecDepth 100000 in
set_option maxHeartbeats 8000000 in
theorem mkToleranceSC (B : Nat) (v : Value) (l : List Tolerance) (f : Nat) (F : List Cl) (k : Int) (w : World) (hown : OwnC w B (f + 1) v (.sl 4 l.length (l.flatMap Tolerance.row)) F) (hnd : F.Nodup) (h0 : 0 ≤ k) (hk : k + wsum Tolerance.cost l ≤ 4611686018427387904) :
    Calls Tryz.prog 72 #[v, .int .i64 k] w fun e w' => e = .returned (.int .i64 (k + wsum Tolerance.cost l)) ∧ OwnC w' B (f + 1) v (.sl 4 l.length ((mks Tolerance.mark Tolerance.cost l k).flatMap Tolerance.row)) F ∧ KeptC F w w' := by
  obtain ⟨A, c, rfl, h1, h2⟩ := hown.is_slice
  by_cases hn0 : 0 < l.length
  case neg =>
    have : l = [] := List.eq_nil_of_length_eq_zero (by omega)
    subst this
    refine (mkToleranceSC_nil A c k w h0 (by simpa [wsum] using hk)).mono ?_
    rintro e w' ⟨rfl, rfl⟩
    exact ⟨by simp [wsum], by simpa [mks] using hown, KeptC.refl _ _⟩
  obtain ⟨g, bo, rfl, _⟩ := hown.pos hn0
  have HP := Lib.hid hn0
  have hcm : l.length ≤ 9223372036854775807 := by unfold maxLen at h2; omega
  clear hn0
  have Hown := Lib.hid hown
  clear hown
  go_enter Tryz.func72, Tryz.ntmps72
  go_wp2_with fail
  go_loopw [1, 5] (fun a i wr => ∃ (j : Nat), j ≤ l.length ∧ i = .int .i64 j ∧ a = .int .i64 (k + wsum Tolerance.cost (l.take j)) ∧ OwnC wr B (f + 1) (.slice (some ⟨g, bo, none⟩) l.length c) (.sl 4 l.length ((mks Tolerance.mark Tolerance.cost (l.take j) k ++ l.drop j).flatMap Tolerance.row)) F ∧ KeptC F w wr) (fun _ i _ => l.length - (intOf i).toNat)
  case atStart => exact ⟨0, Nat.zero_le _, rfl, by simp [wsum], by simpa [mks] using Hown.out, KeptC.refl _ _⟩
  case round =>
    clear Hown
    obtain ⟨j, hj, rfl, rfl, hown, hkb⟩ := hrel
    by_cases hlt : j < l.length
    · have hdrop : l.drop j = l[j] :: l.drop (j + 1) := List.drop_eq_getElem_cons hlt
      have hnext := wsum_take Tolerance.cost hlt
      have hall := wsum_all Tolerance.cost l (j + 1)
      have hmark := mks_next Tolerance.mark Tolerance.cost hlt k
      rw [hdrop, List.flatMap_append, List.flatMap_cons] at hown
      have Hmark := Lib.hid hmark
      have HL := Lib.hid (show ((mks Tolerance.mark Tolerance.cost (l.take j) k).flatMap Tolerance.row).length = j * 4 by rw [flat_length' Tolerance.row_length, mks_length, List.length_take]; congr 1; omega)
      have Hnext := Lib.hid hnext
      obtain ⟨a0, a1, a2, a3, hx⟩ : ∃ a0 a1 a2 a3, l[j] = Tolerance.mk a0 a1 a2 a3 := ⟨l[j].key, l[j].equal, l[j].value, l[j].effect, rfl⟩
      rw [hx] at hown Hmark Hnext hnext
      rw [show Tolerance.cost (Tolerance.mk a0 a1 a2 a3) = 4 from rfl] at Hnext hnext
      generalize wsum Tolerance.cost (l.take j) = C0 at *
      have hkk : k + C0 + 4 ≤ 4611686018427387904 := by omega
      clear hmark hnext hall hx hdrop
      obtain ⟨K, hK⟩ : ∃ K, k + C0 = K := ⟨_, rfl⟩
      rw [hK] at hkk Hmark ⊢
      have hK0 : 0 ≤ K := by omega
      have HK := Lib.hid hK
      clear hK
      generalize hLL : (mks Tolerance.mark Tolerance.cost (l.take j) k).flatMap Tolerance.row = L at *
      generalize hRR : (l.drop (j + 1)).flatMap Tolerance.row = R at *
      have hown0 : OwnC wr B (f + 1) (.slice (some ⟨g, bo, none⟩) l.length c) (.sl 4 l.length (mid L (Tolerance.row (Tolerance.mk a0 a1 a2 a3)) R)) F := hown
      clear hown
      cases f with
      | zero =>
        obtain ⟨_, _, _, _, ho, _⟩ := OwnC.field hown0 HP.out hnd HL.out (r := 0) rfl
        exact ho.elim
      | succ f =>
      have HMT := Lib.hid (fun m w hm => lawMark.mark_text m w hm)
      have e2 : (K + 1) + 1 = K + 2 := by omega
      have e3 : (K + 2) + 1 = K + 3 := by omega
      have e4 : (K + 3) + 1 = K + 4 := by omega
      go_wp2_with fail
      refine (HMT.out K _ (by omega)).mono ?_
      rintro e x1 ⟨rfl, hb1⟩
      have on1 := OwnC.below hown0 hb1
      have kn1 := KeptC.trans hkb (KeptC.of_below hb1)
      clear hb1 hown0 hkb
      obtain ⟨o0, b0, ⟨q0, p0⟩, f0⟩ := OwnC.put (r := 0) (d' := .str (lawMark.mt K)) (u' := .string (lawMark.mt K)) on1 HP.out hnd HL.out rfl trivial (fun w' => ownC_str (lawMark.mt_size _ (by omega)))
      have k0 := KeptC.trans kn1 b0
      simp only [Nat.add_zero] at o0 k0 p0 f0 b0
      clear b0 on1 kn1
      obtain ⟨o1, b1, ⟨q1, p1⟩, f1⟩ := OwnC.put (r := 1) (d' := .bool (decide ((K + 1) % 3 = 0))) (u' := .bool ((K + 1) % 3 == 0)) o0 HP.out hnd HL.out rfl trivial (fun w' => by rw [show ((K + 1) % 3 == 0) = decide ((K + 1) % 3 = 0) from rfl]; exact ownC_bool)
      have k1 := KeptC.trans k0 b1
      clear b1 o0 k0
      have Ho2 := Lib.hid o1
      have Hkb2 := Lib.hid k1
      clear o1 k1
      go_wp2_with fail
      refine (HMT.out (K + 2) _ (by omega)).mono ?_
      rintro e x2 ⟨rfl, hb2⟩
      have on2 := OwnC.below Ho2.out hb2
      have kn2 := KeptC.trans Hkb2.out (KeptC.of_below hb2)
      clear p0 f0 p1 f1 hb2 Ho2 Hkb2
      obtain ⟨o2, b2, ⟨q2, p2⟩, f2⟩ := OwnC.put (r := 2) (d' := .str (lawMark.mt (K + 2))) (u' := .string (lawMark.mt (K + 2))) on2 HP.out hnd HL.out rfl trivial (fun w' => ownC_str (lawMark.mt_size _ (by omega)))
      have k2 := KeptC.trans kn2 b2
      clear b2 on2 kn2
      obtain ⟨o3, b3, ⟨q3, p3⟩, f3⟩ := OwnC.put (r := 3) (d' := .int .i64 (K + 3)) (u' := .int .i64 (K + 3)) o2 HP.out hnd HL.out rfl trivial (fun w' => ownC_int (lawMark.wf_of (by omega) (by omega)))
      have k3 := KeptC.trans k2 b3
      clear b3 o2 k2
      have Ho9 : Hid (OwnC ((x2.setCell ⟨g, bo + j * 4 + 2, none⟩ (.string (lawMark.mt (K + 2)))).setCell ⟨g, bo + j * 4 + 3, none⟩ (.int .i64 (K + 3))) B (f + 1 + 1) (.slice (some ⟨g, bo, none⟩) l.length c) (.sl 4 l.length ((mks Tolerance.mark Tolerance.cost (l.take (j + 1)) k ++ l.drop (j + 1)).flatMap Tolerance.row)) F) := by
        unfold Hid
        rw [Hmark.out, List.flatMap_append, List.flatMap_cons, hLL, hRR]
        exact o3
      have Hkb9 := Lib.hid k3
      clear o3 k3 HMT
      go_wp2_with fail
      go_roundw
      case rel => exact ⟨j + 1, by omega, by go_num, by rw [Hnext.out]; have := HK.out; congr 1; omega, Ho9.out, Hkb9.out⟩
      case measure => simp [intOf]; omega
    · obtain rfl : j = l.length := by omega
      rw [List.take_of_length_le (Nat.le_refl _), List.drop_of_length_le (Nat.le_refl _), List.append_nil] at hown
      have Hown := Lib.hid hown
      have Hkb := Lib.hid hkb
      clear hown hkb
      rw [List.take_of_length_le (Nat.le_refl _)]
      go_wp2_with fail
      go_ret
      exact ⟨rfl, Hown.out, Hkb.out⟩
end Go.Proofs.YtcfbkfmkjggcdaaGreatDoor.ty
namespace Go.Proofs.YtcfbkfmkjggcdaaGreatDoor.ty
open Go.ChangeShapes Go.WideShapes Go.ChangeAt Go.RowKit
set_option linter.unusedVariables false

set_option maxRecDepth 100000 in
set_option maxHeartbeats 16000000 in
theorem mkPodC (x : Pod) (B f : Nat) (us : List Value) (F : List Cl) (k : Int) (w : World) (hown : OwnCS w B (f + 1) us x.row F) (hnd : F.Nodup) (h0 : 0 ≤ k) (hk : k + (x.kost : Nat) ≤ 4611686018427387904) :
    Calls Tryz.prog 23 #[.agg us.toArray, .int .i64 k] w fun e w' => e = .returned (.int .i64 (k + (x.kost : Nat))) ∧ OwnCS w' B (f + 1) us (x.stamp k).row F ∧ KeptC F w w' := by
  obtain ⟨a0, a1, a2, a3, a4, a5, a6⟩ := x
  rw [Pod.row_stamp]
  rw [Pod.kost_eq] at hk ⊢
  have h := hown
  unfold Pod.row at h
  simp only at h
  obtain ⟨v0, us, F0, F', rfl, rfl, o0, h⟩ := h.uncons
  obtain ⟨v1, us, F1, F', rfl, rfl, o1, h⟩ := h.uncons
  obtain ⟨v2, us, F2, F', rfl, rfl, o2, h⟩ := h.uncons
  obtain ⟨v3, us, F3, F', rfl, rfl, o3, h⟩ := h.uncons
  obtain ⟨v4, us, F4, F', rfl, rfl, o4, h⟩ := h.uncons
  obtain ⟨v5, us, F5, F', rfl, rfl, o5, h⟩ := h.uncons
  obtain ⟨v6, us, F6, F', rfl, rfl, o6, h⟩ := h.uncons
  obtain ⟨rfl, rfl⟩ := h.unnil
  obtain ⟨⟨rfl, w0⟩, rfl⟩ := o0
  obtain ⟨A1, c1, rfl, _, _, _⟩ := o1.lies.sl
  obtain ⟨⟨rfl, w2⟩, rfl⟩ := o2
  obtain ⟨⟨rfl, w3⟩, rfl⟩ := o3
  obtain ⟨⟨rfl, w4⟩, rfl⟩ := o4
  obtain ⟨A5, c5, rfl, _, _, _⟩ := o5.lies.sl
  obtain ⟨A6, c6, rfl, _, _, _⟩ := o6.lies.sl
  clear hown
  simp only [List.nil_append, List.append_nil] at hnd ⊢
  obtain ⟨n1, hnd, d1⟩ := List.nodup_append.1 hnd
  obtain ⟨n5, n6, d5⟩ := List.nodup_append.1 hnd
  obtain ⟨w1, hw1⟩ : ∃ w1, w1 = w.alloc (.cells #[.string a0, .slice A1 a1.length c1, .int .i64 a2, .int .i64 a3, .int .i64 a4, .slice A5 a5.length c5, .slice A6 a6.length c6] 28) := ⟨_, rfl⟩
  have hb1 : Below w.heap.size w w1 := by rw [hw1]; exact (Below.refl _ _).alloc (Nat.le_refl _) _
  have R1 : RowE 28 w1 w.heap.size [.string a0, .slice A1 a1.length c1, .int .i64 a2, .int .i64 a3, .int .i64 a4, .slice A5 a5.length c5, .slice A6 a6.length c6] := by rw [hw1]; exact RowE.new _ _ _
  have g1 := o1.ranges
  have o1 := o1.below hb1
  have g5 := o5.ranges
  have o5 := o5.below hb1
  have g6 := o6.ranges
  have o6 := o6.below hb1
  have KB1 : KeptC (F1 ++ (F5 ++ (F6))) w w1 := KeptC.of_below hb1
  have p1 := R1.cell 1 _ rfl
  have p5 := R1.cell 5 _ rfl
  have p6 := R1.cell 6 _ rfl
  have C1 : 0 ≤ k ∧ k + (wsum Label.cost a1 : Nat) ≤ 4611686018427387904 := by constructor <;> omega
  have C5 : 0 ≤ k + (wsum Label.cost a1 : Nat) ∧ k + (wsum Label.cost a1 : Nat) + (wsum Need.cost a5 : Nat) ≤ 4611686018427387904 := by constructor <;> omega
  have C6 : 0 ≤ k + (wsum Label.cost a1 : Nat) + (wsum Need.cost a5 : Nat) ∧ k + (wsum Label.cost a1 : Nat) + (wsum Need.cost a5 : Nat) + (wsum Tolerance.cost a6 : Nat) ≤ 4611686018427387904 := by constructor <;> omega
  have T1 := Lib.hid (fun w' ho => mkLabelSC B (.slice A1 a1.length c1) a1 f F1 (k) w' ho n1 C1.1 C1.2)
  have T5 := Lib.hid (fun w' ho => mkNeedSC B (.slice A5 a5.length c5) a5 f F5 (k + (wsum Label.cost a1 : Nat)) w' ho n5 C5.1 C5.2)
  have T6 := Lib.hid (fun w' ho => mkToleranceSC B (.slice A6 a6.length c6) a6 f F6 (k + (wsum Label.cost a1 : Nat) + (wsum Need.cost a5 : Nat)) w' ho n6 C6.1 C6.2)
  have D1_5 : ∀ y ∈ F5, y ∉ F1 := fun y hy hx => d1 y hx y (List.mem_append_left _ hy) rfl
  have D1_6 : ∀ y ∈ F6, y ∉ F1 := fun y hy hx => d1 y hx y (List.mem_append_right _ hy) rfl
  have D5_6 : ∀ y ∈ F6, y ∉ F5 := fun y hy hx => d5 y hx y hy rfl
  have Hw1 := Lib.hid hw1
  clear hw1 h0 hk d1 d5 C1 C5 C6
  have G1 := Lib.hid g1
  clear g1
  have G5 := Lib.hid g5
  clear g5
  have G6 := Lib.hid g6
  clear g6
  go_enter Tryz.func23, Tryz.ntmps23
  go_wp2_with fail
  rw [← Hw1.out]
  clear Hw1
  refine (T1.out _ o1).mono ?_
  rintro e y1 ⟨rfl, O1, kb1⟩
  have KB11 : KeptC (F1 ++ (F5 ++ (F6))) w y1 := KB1.trans (kb1.mono fun x hx => List.mem_append_left _ hx)
  have R11 := (kb1.block w.heap.size (heap_lt R1) (fun hx => by have := (G1.out _ hx).2; omega)).trans R1
  have R11 : RowE 28 y1 w.heap.size [.string a0, .slice A1 a1.length c1, .int .i64 a2, .int .i64 a3, .int .i64 a4, .slice A5 a5.length c5, .slice A6 a6.length c6] := R11
  have Q5_1 := OwnC.butC o5 kb1 (fun x hx => D1_5 x hx)
  have Q6_1 := OwnC.butC o6 kb1 (fun x hx => D1_6 x hx)
  clear p1 p5 p6 kb1
  have p5_1 := R11.cell 5 _ rfl
  have p6_1 := R11.cell 6 _ rfl
  go_wp2_with fail
  refine (T5.out _ Q5_1).mono ?_
  rintro e y5 ⟨rfl, O5, kb5⟩
  have KB15 : KeptC (F1 ++ (F5 ++ (F6))) w y5 := KB11.trans (kb5.mono fun x hx => List.mem_append_right _ (List.mem_append_left _ hx))
  have R15 := (kb5.block w.heap.size (heap_lt R11) (fun hx => by have := (G5.out _ hx).2; omega)).trans R11
  have R15 : RowE 28 y5 w.heap.size [.string a0, .slice A1 a1.length c1, .int .i64 a2, .int .i64 a3, .int .i64 a4, .slice A5 a5.length c5, .slice A6 a6.length c6] := R15
  have Q1_5 := OwnC.butC O1 kb5 (fun x hx => fun hy => D1_5 x hy hx)
  have Q6_5 := OwnC.butC Q6_1 kb5 (fun x hx => D5_6 x hx)
  clear p5_1 p6_1 kb5
  have p6_5 := R15.cell 6 _ rfl
  go_wp2_with fail
  refine (T6.out _ Q6_5).mono ?_
  rintro e y6 ⟨rfl, O6, kb6⟩
  have KB16 : KeptC (F1 ++ (F5 ++ (F6))) w y6 := KB15.trans (kb6.mono fun x hx => List.mem_append_right _ (List.mem_append_right _ hx))
  have R16 := (kb6.block w.heap.size (heap_lt R15) (fun hx => by have := (G6.out _ hx).2; omega)).trans R15
  have R16 : RowE 28 y6 w.heap.size [.string a0, .slice A1 a1.length c1, .int .i64 a2, .int .i64 a3, .int .i64 a4, .slice A5 a5.length c5, .slice A6 a6.length c6] := R16
  have Q1_6 := OwnC.butC Q1_5 kb6 (fun x hx => fun hy => D1_6 x hy hx)
  have Q5_6 := OwnC.butC O5 kb6 (fun x hx => fun hy => D5_6 x hy hx)
  clear p6_5 kb6
  have HR := Lib.hid (show OwnCS y6 B (f + 1) _ _ _ ∧ KeptC (F1 ++ (F5 ++ (F6))) w y6 from ⟨OwnCS.cons (ownC_str w0) (OwnCS.cons (Q1_6) (OwnCS.cons (ownC_int w2) (OwnCS.cons (ownC_int w3) (OwnCS.cons (ownC_int w4) (OwnCS.cons (Q5_6) (OwnCS.cons (O6) (OwnCS.nil))))))), KB16⟩)
  simp only [List.nil_append, List.append_nil] at HR
  go_wp2_with fail
  go_ret
  exact ⟨rfl, HR.out⟩
end Go.Proofs.YtcfbkfmkjggcdaaGreatDoor.ty
namespace Go.Proofs.YtcfbkfmkjggcdaaGreatDoor.taint
open Go.ChangeShapes Go.WideShapes Go.ChangeAt Go.RowKit ty lab dedup need
set_option linter.unusedVariables false

set_option maxRecDepth 100000 in
set_option maxHeartbeats 16000000 in
theorem impl_ascTolerance (l : List Tolerance) (f : Nat) (v : Value) (w : World) (h : Lies w f v (.sl 4 l.length (l.flatMap Tolerance.row))) :
    Calls Tryz.prog 178 #[v, .func (.func 179) #[] #[], .func (.func 103) #[] #[]] w fun e w' => e = .returned (.bool (yes (GoodL TolP befT l l.length))) ∧ Below w.heap.size w w' := by
  obtain ⟨A, c, rfl, hc1, hc2, f', rfl, hk⟩ := els_of Tolerance.row_length h
  unfold maxLen at hc2
  obtain ⟨R, hR⟩ : ∃ R, yes (GoodL TolP befT l l.length) = R := ⟨_, rfl⟩
  rw [hR]
  have Hno : Hid (¬ GoodL TolP befT l l.length → R = false) := fun h => by rw [← hR]; exact yes_f h
  have Hyes : Hid (GoodL TolP befT l l.length → R = true) := fun h => by rw [← hR]; exact yes_t h
  have Hk := Lib.hid hk
  clear h hk hR
  go_enter Tryz.func178, Tryz.ntmps178
  go_wp2_with fail
  go_loopw [11] (fun i wr => ∃ j : Nat, j ≤ l.length ∧ i = .int .i64 j ∧ Hid (GoodL TolP befT l j) ∧ Below w.heap.size w wr) (fun i _ => l.length - (intOf i).toNat)
  case atStart => exact ⟨0, Nat.zero_le _, rfl, fun i hi hj => by omega, Below.refl _ _⟩
  case round =>
    obtain ⟨j, hj, rfl, hgood, hbel⟩ := hrel
    have Hbel := Lib.hid hbel
    by_cases hlt : j < l.length
    · obtain ⟨g, o, rfl, hg, us, hus, hc, hls⟩ := (Hk.out.below hbel).get hlt
      obtain ⟨rfl, hwf⟩ := Tolerance.opened hls
      have q0 : wr.cell? ⟨g, o + j * 4, none⟩ = some (.string l[j].key) := hc 0 _ rfl
      have q1 : wr.cell? ⟨g, o + j * 4 + 1, none⟩ = some (.bool l[j].equal) := hc 1 _ rfl
      have q2 : wr.cell? ⟨g, o + j * 4 + 2, none⟩ = some (.string l[j].value) := hc 2 _ rfl
      have q3 : wr.cell? ⟨g, o + j * 4 + 3, none⟩ = some (.int .i64 l[j].effect) := hc 3 _ rfl
      obtain ⟨X, hX⟩ : ∃ X, X = wr.alloc (.cells #[.string l[j].key, .bool l[j].equal, .string l[j].value, .int .i64 l[j].effect] 86) := ⟨_, rfl⟩
      have HB := Lib.hid (Box.new 86 wr [.string l[j].key, .bool l[j].equal, .string l[j].value, .int .i64 l[j].effect])
      have hbX : Below wr.heap.size wr X := by rw [hX]; exact HB.out.1
      have HN := Lib.hid (fun p : BelowBy X => impl_tol l[j] p.v hwf)
      have HW2 : Hid (∀ p : BelowBy X, Below w.heap.size w p.v) := fun p => below_link hbel (hbX.trans (p.h.mono hbX.size)) hbel.size
      have B0 : ∀ p : BelowBy X, p.v.cell? ⟨wr.heap.size, 0, none⟩ = some (.string l[j].key) := fun p => p.cell (by rw [hX]; simp) (by rw [hX]; exact HB.out.cell (j := 0) rfl)
      have B1 : ∀ p : BelowBy X, p.v.cell? ⟨wr.heap.size, 1, none⟩ = some (.bool l[j].equal) := fun p => p.cell (by rw [hX]; simp) (by rw [hX]; exact HB.out.cell (j := 1) rfl)
      have B2 : ∀ p : BelowBy X, p.v.cell? ⟨wr.heap.size, 2, none⟩ = some (.string l[j].value) := fun p => p.cell (by rw [hX]; simp) (by rw [hX]; exact HB.out.cell (j := 2) rfl)
      have B3 : ∀ p : BelowBy X, p.v.cell? ⟨wr.heap.size, 3, none⟩ = some (.int .i64 l[j].effect) := fun p => p.cell (by rw [hX]; simp) (by rw [hX]; exact HB.out.cell (j := 3) rfl)
      have HX := Lib.hid hX
      have hj0 : (0 : Int) ≤ (j : Int) := by omega
      have hjn : (j : Int) < (l.length : Int) := by omega
      by_cases hP : TolP l[j]
      case neg =>
        have Hf := Lib.hid (Hno.out fun h2 => hP (h2 j hlt hlt).1)
        rw [yes_f hP] at HN
        clear hP Hno Hyes hgood hls hus hc hg hwf Hk hbel hbX hX HB
        generalize l[j] = x at *
        go_wp2_with fail
        rw [← HX.out]
        refine wp_region_quiet_below (by kernel_rfl) (by kernel_rfl) ?_
        repeat (refine @wpQuiet_step _ _ _ _ _ _ _ ?_; intro K hK; go_simp; first | (refine hK _ ?_; clear hK K) | (apply Exists.intro; refine ⟨fun _ => ?_, hK _ ?_⟩; (first | (go_at_call 179; exact Calls.below_of (HN.out _))); clear hK K))
        refine wpQuiet_nil ?_
        intro _ hw'
        obtain ⟨p, rfl⟩ := hw'
        go_wp2_with fail
        go_ret
        exact ⟨by rw [Hf.out]; rfl, HW2.out p⟩
      rw [yes_t hP] at HN
      by_cases hz : j = 0
      · have Hg := Lib.hid (goodL_next hgood.out hlt hP (fun m hm => by omega))
        have hn0 : ¬ (0 : Int) < (j : Int) := by omega
        have hn1 : ¬ 0 < j := by omega
        clear hP Hno Hyes hgood hls hus hc hg hwf Hk hz hbel hbX hX HB
        generalize l[j] = x at *
        go_wp2_with fail
        rw [← HX.out]
        refine wp_region_quiet_below (by kernel_rfl) (by kernel_rfl) ?_
        repeat (refine @wpQuiet_step _ _ _ _ _ _ _ ?_; intro K hK; go_simp; first | (refine hK _ ?_; clear hK K) | (apply Exists.intro; refine ⟨fun _ => ?_, hK _ ?_⟩; (first | (go_at_call 179; exact Calls.below_of (HN.out _))); clear hK K))
        refine wpQuiet_nil ?_
        intro _ hw'
        obtain ⟨p, rfl⟩ := hw'
        go_wp2_with fail
        go_roundw
        case rel => exact ⟨j + 1, by omega, by go_num, Hg.out, HW2.out p⟩
        case measure => simp [intOf]; omega
      obtain ⟨m, hm⟩ : ∃ m, m + 1 = j := ⟨j - 1, by omega⟩
      have hml : m < l.length := by omega
      obtain ⟨g', o', hA3, hg2, us2, hus2, hc2', hls2⟩ := (Hk.out.below hbel).get hml
      injection hA3 with hA3
      injection hA3 with e1 e2
      subst e1 e2
      obtain ⟨rfl, _⟩ := Tolerance.opened hls2
      have HC := Lib.hid (fun p : BelowBy X => gr_below (impl_cmpO l[m] l[j] p.v))
      have R0 : ∀ p : BelowBy X, p.v.cell? ⟨g, o + m * 4, none⟩ = some (.string l[m].key) := fun p => (World.cell?_of_block ((hbX.trans (p.h.mono hbX.size)).block g hg)).trans (hc2' 0 _ rfl)
      have R1 : ∀ p : BelowBy X, p.v.cell? ⟨g, o + m * 4 + 1, none⟩ = some (.bool l[m].equal) := fun p => (World.cell?_of_block ((hbX.trans (p.h.mono hbX.size)).block g hg)).trans (hc2' 1 _ rfl)
      have R2 : ∀ p : BelowBy X, p.v.cell? ⟨g, o + m * 4 + 2, none⟩ = some (.string l[m].value) := fun p => (World.cell?_of_block ((hbX.trans (p.h.mono hbX.size)).block g hg)).trans (hc2' 2 _ rfl)
      have R3 : ∀ p : BelowBy X, p.v.cell? ⟨g, o + m * 4 + 3, none⟩ = some (.int .i64 l[m].effect) := fun p => (World.cell?_of_block ((hbX.trans (p.h.mono hbX.size)).block g hg)).trans (hc2' 3 _ rfl)
      have hmi : (j : Int) - 1 = (m : Int) := by omega
      have hwm : IntKind.i64.wrap (m : Int) = (m : Int) := IntWalk.i64_in _ (by omega)
      have hm0 : (0 : Int) ≤ (m : Int) := by omega
      have hm1 : (m : Int) < (l.length : Int) := by omega
      have hjp : (0 : Int) < (j : Int) := by omega
      have hjp1 : 0 < j := by omega
      have hb := CmpWay.less wayO ordO l[m] l[j]
      by_cases hr : cmpO l[m] l[j] < 0
      · rw [decide_eq_true hr] at hb
        have Hg := Lib.hid (goodL_next hgood.out hlt hP (fun m' hm' => by obtain rfl : m' = m := by omega
                                                                          exact hb.symm))
        have hr0 : ¬ (0 : Int) ≤ cmpO l[m] l[j] := by omega
        clear hP Hno Hyes hgood hls hus hc hg hwf hls2 hus2 hc2' hg2 Hk hz hm hb hbel hbX hX HB
        generalize cmpO l[m] l[j] = r at HC hr0 hr
        generalize l[j] = x at *
        generalize l[m] = y at *
        go_wp2_with fail
        rw [← HX.out]
        refine wp_region_quiet_below (by kernel_rfl) (by kernel_rfl) ?_
        repeat (refine @wpQuiet_step _ _ _ _ _ _ _ ?_; intro K hK; go_simp; first | (refine hK _ ?_; clear hK K) | (apply Exists.intro; refine ⟨fun _ => ?_, hK _ ?_⟩; (first | (go_at_call 179; exact Calls.below_of (HN.out _)) | (go_at_call 103; exact Calls.below_of (HC.out _))); clear hK K))
        refine wpQuiet_nil ?_
        intro _ hw'
        obtain ⟨p, rfl⟩ := hw'
        go_wp2_with fail
        go_roundw
        case rel => exact ⟨j + 1, by omega, by go_num, Hg.out, HW2.out p⟩
        case measure => simp [intOf]; omega
      · rw [decide_eq_false hr] at hb
        have Hf := Lib.hid (Hno.out fun h2 => by
          have := (h2 j hlt hlt).2 m hm
          rw [← hb] at this; cases this)
        have hr0 : (0 : Int) ≤ cmpO l[m] l[j] := by omega
        clear hP Hno Hyes hgood hls hus hc hg hwf hls2 hus2 hc2' hg2 Hk hz hm hb hbel hbX hX HB
        generalize cmpO l[m] l[j] = r at HC hr0 hr
        generalize l[j] = x at *
        generalize l[m] = y at *
        go_wp2_with fail
        rw [← HX.out]
        refine wp_region_quiet_below (by kernel_rfl) (by kernel_rfl) ?_
        repeat (refine @wpQuiet_step _ _ _ _ _ _ _ ?_; intro K hK; go_simp; first | (refine hK _ ?_; clear hK K) | (apply Exists.intro; refine ⟨fun _ => ?_, hK _ ?_⟩; (first | (go_at_call 179; exact Calls.below_of (HN.out _)) | (go_at_call 103; exact Calls.below_of (HC.out _))); clear hK K))
        refine wpQuiet_nil ?_
        intro _ hw'
        obtain ⟨p, rfl⟩ := hw'
        go_wp2_with fail
        go_ret
        exact ⟨by rw [Hf.out]; rfl, HW2.out p⟩
    · obtain rfl : j = l.length := by omega
      have Hf := Lib.hid (Hyes.out hgood.out)
      clear hgood hbel
      go_wp2_with fail
      go_ret
      exact ⟨by rw [Hf.out]; rfl, Hbel.out⟩
end Go.Proofs.YtcfbkfmkjggcdaaGreatDoor.taint
namespace Go.Proofs.YtcfbkfmkjggcdaaGreatDoor.taint
open Go.ChangeShapes Go.WideShapes Go.ChangeAt Go.RowKit ty lab dedup need
set_option linter.unusedVariables false

set_option maxRecDepth 100000 in
set_option maxHeartbeats 4000000 in
theorem impl_oksTolerance (l : List Tolerance) (f : Nat) (v : Value) (w : World) (h : Lies w f v (.sl 4 l.length (l.flatMap Tolerance.row))) :
    Calls Tryz.prog 104 #[v] w fun e w' => e = .returned (.bool (yes (TolsP l))) ∧ Below w.heap.size w w' := by
  have HA := Lib.hid (impl_ascTolerance l f v w h)
  obtain ⟨A, c, rfl, hc1, hc2, _⟩ := els_of Tolerance.row_length h
  unfold maxLen at hc2
  by_cases h4 : 4 < l.length
  · have Hf := Lib.hid (yes_f (p := TolsP l) (fun h => by have := h.1; omega))
    clear h HA
    go_enter Tryz.func104, Tryz.ntmps104
    go_wp2_with fail
    go_ret
    exact ⟨by rw [Hf.out]; rfl, Below.refl _ _⟩
  have He : Hid (yes (TolsP l) = yes (GoodL TolP befT l l.length)) := by
    unfold Hid
    congr 1
    exact propext ⟨fun h => h.2, fun h => ⟨by omega, h⟩⟩
  rw [He.out]
  clear He h
  generalize yes (GoodL TolP befT l l.length) = R at HA ⊢
  go_enter Tryz.func104, Tryz.ntmps104
  go_wp2_with fail
  refine HA.out.mono ?_
  rintro e w1 ⟨rfl, hb⟩
  go_wp2_with fail
  go_ret
  exact ⟨rfl, hb⟩
end Go.Proofs.YtcfbkfmkjggcdaaGreatDoor.taint
namespace Go.Proofs.YtcfbkfmkjggcdaaGreatDoor.ty.Pod
open Go Go.RowKit
set_option linter.unusedVariables false
theorem ownedC {w : World} {B f : Nat} {x : Pod} {v1 v5 v6 : Value} {F1 F5 F6 : List Cl} (h : x.Wf) (o1 : OwnC w B (f + 1) v1 (.sl 2 x.labels.length (x.labels.flatMap Label.row)) F1) (o5 : OwnC w B (f + 1) v5 (.sl 3 x.needs.length (x.needs.flatMap Need.row)) F5) (o6 : OwnC w B (f + 1) v6 (.sl 4 x.tolerances.length (x.tolerances.flatMap Tolerance.row)) F6) (n1 : F1.Nodup) (n5 : F5.Nodup) (n6 : F6.Nodup) (d1_5 : ∀ y ∈ F1, y ∉ F5) (d1_6 : ∀ y ∈ F1, y ∉ F6) (d5_6 : ∀ y ∈ F5, y ∉ F6) : ∃ F, OwnCS w B (f + 1) [.string x.name, v1, .int .i64 x.cpu, .int .i64 x.mem, .int .i64 x.rank, v5, v6] x.row F ∧ F.Nodup ∧ ∀ y ∈ F, y ∈ F1 ∨ y ∈ F5 ∨ y ∈ F6 := by
  obtain ⟨w0, w2, w3, w4⟩ := h
  refine ⟨_, OwnCS.cons (ownC_str w0) (OwnCS.cons o1 (OwnCS.cons (ownC_int w2) (OwnCS.cons (ownC_int w3) (OwnCS.cons (ownC_int w4) (OwnCS.cons o5 (OwnCS.cons o6 (OwnCS.nil))))))), ?_, ?_⟩
  · simp only [List.nil_append, List.append_nil]
    exact (List.nodup_append.2 ⟨n1, (List.nodup_append.2 ⟨n5, n6, fun a ha b hb e => d5_6 a ha (by rw [e]; exact hb)⟩), fun a ha b hb e => (List.mem_append.1 hb).elim (fun hb => d1_5 a ha (by rw [e]; exact hb)) (fun hb => d1_6 a ha (by rw [e]; exact hb))⟩)
  · simp only [List.nil_append, List.append_nil]
    intro y hy
    simpa only [List.mem_append] using hy
end Go.Proofs.YtcfbkfmkjggcdaaGreatDoor.ty.Pod
namespace Go.Proofs.YtcfbkfmkjggcdaaGreatDoor.need
open Go Go.RowKit ty lab
set_option linter.unusedVariables false

/-- How many values the first j requirements have. -/
def vcnt (l : List Need) (j : Nat) : Nat := wsum (fun x => x.values.length) (l.take j)
theorem vcnt_zero (l : List Need) : vcnt l 0 = 0 := by simp [vcnt, wsum]
theorem vcnt_next {l : List Need} {j : Nat} (h : j < l.length) : vcnt l (j + 1) = vcnt l j + l[j].values.length := wsum_take _ h
theorem vcnt_le (l : List Need) (j : Nat) : vcnt l j ≤ wsum Need.wt l := by
  have h1 := wsum_all Need.wt l j
  have h2 : ∀ k : List Need, wsum (fun x => x.values.length) k ≤ wsum Need.wt k := fun k => by
    induction k with
    | nil => exact Nat.le_refl _
    | cons a r ih =>
      have := wt_vals a
      simp only [wsum, List.map_cons, List.sum_cons] at ih ⊢
      omega
  have h3 := h2 (l.take j)
  unfold vcnt
  omega
theorem vcnt_mono (l : List Need) (j : Nat) (hj : j ≤ l.length) : vcnt l j ≤ vcnt l l.length := by
  unfold vcnt
  rw [List.take_length]
  have := wsum_all (fun x : Need => x.values.length) l j
  omega
theorem get_of_drop {α : Type} {xs ys : List α} {n : Nat} (h : xs.drop n = ys.drop n) (i : Nat) : xs[n + i]? = ys[n + i]? := by
  rw [← List.getElem?_drop, ← List.getElem?_drop, h]
theorem take_set3 {xs : List Value} {n : Nat} {a b c v : Value} (h0 : xs[n]? = some a) (h1 : xs[n + 1]? = some b) (h2 : xs[n + 2]? = some c) : (xs.set (n + 2) v).take (n + 3) = xs.take n ++ [a, b, v] := by
  have l2 : n + 2 < xs.length := (List.getElem?_eq_some_iff.1 h2).1
  rw [List.take_succ_eq_append_getElem (by simp; omega), List.getElem_set_self, List.take_set_of_le (Nat.le_refl _), List.take_succ_eq_append_getElem (by omega), List.take_succ_eq_append_getElem (by omega)]
  rw [List.getElem?_eq_getElem (by omega)] at h0 h1
  injection h0 with h0
  injection h1 with h1
  rw [h0, h1]
  simp
theorem splice_low {α : Type} {L cs : List α} {o i : Nat} (hi : i < o) (ho : o ≤ L.length) : (splice L o cs)[i]? = L[i]? := by
  unfold splice
  rw [List.getElem?_append_left (by simp; omega), List.getElem?_take_of_lt hi]
theorem splice_in {α : Type} {L cs : List α} {o i : Nat} (hi : i < cs.length) (ho : o ≤ L.length) : (splice L o cs)[o + i]? = cs[i]? := by
  unfold splice
  have e : (L.take o).length = o := by rw [List.length_take]; omega
  rw [List.getElem?_append_right (by omega), e, Nat.add_sub_cancel_left, List.getElem?_append_left hi]
/-- j requirements have their values in block r; the rest of the row is as it came. -/
structure Cp (w : World) (IT TS : TypeId) (x c1 r N : Nat) (l : List Need) (raw : List Value) (j : Nat) (xs : List Value) (F : List Cl) (cur : List Value) (wr : World) : Prop where
  row : wr.ownsRow w.heap.size IT 3 (.slice (some ⟨x, 0, none⟩) l.length c1) l.length xs
  drop : xs.drop (j * 3) = raw.drop (j * 3)
  own : OwnCS wr w.heap.size 2 (xs.take (j * 3)) ((l.take j).flatMap Need.row) F
  nod : F.Nodup
  inr : ∀ p ∈ F, p.1 = r ∧ p.2 < vcnt l j
  blk : wr.heap[r]? = some (.cells cur.toArray TS (0, 0))
  len : cur.length = N
  ne : r ≠ x
  base : w.heap.size ≤ r
  bel : Below w.heap.size w wr
theorem Cp.step {w wr w4 w5 : World} {IT TS : TypeId} {x c1 r N o n : Nat} {l : List Need} {raw xs cur : List Value} {F : List Cl} {j : Nat} {A2 : Option Addr} {c2 : Nat}
    (h : Cp w IT TS x c1 r N l raw j xs F cur wr) (hlt : j < l.length) (hn : n = l[j].values.length) (hN : vcnt l j + n ≤ N) (e0 : xs[j * 3]? = some (.string l[j].key)) (e1 : xs[j * 3 + 1]? = some (.int .i64 l[j].op)) (e2 : xs[j * 3 + 2]? = some (.slice A2 n c2)) (hwf : l[j].Wf) (hz : ∀ s ∈ l[j].values, s.size ≤ maxLen) (hnm : n ≤ maxLen)
    (ho : 0 < n → o = vcnt l j) (h4 : w4.heap[r]? = some (.cells (splice cur (vcnt l j) (scells l[j].values)).toArray TS (0, 0))) (hg4 : wr.grownBy w4 (some r)) (h5 : w5 = w4.setCell ⟨x, j * 3 + 2, none⟩ (.slice (some ⟨r, o, none⟩) n n)) :
    ∃ G, Cp w IT TS x c1 r N l raw (j + 1) (xs.set (j * 3 + 2) (.slice (some ⟨r, o, none⟩) n n)) (F ++ G) (splice cur (vcnt l j) (scells l[j].values)) w5 := by
  have hlen : vcnt l j ≤ cur.length := by rw [h.len]; omega
  have hsl : (splice cur (vcnt l j) (scells l[j].values)).length = N := by rw [length_splice _ _ _ (by rw [scells_length, h.len, ← hn]; exact hN), h.len]
  have hr := heap_lt h.blk
  have hxl := (h.row.lt x rfl)
  have hx4 : w4.heap[x]? = wr.heap[x]? := hg4.block x hxl.2 (fun e => h.ne (by injection e with e; exact e.symm))
  have hrow4 : w4.ownsRow w.heap.size IT 3 (.slice (some ⟨x, 0, none⟩) l.length c1) l.length xs := h.row.kept hg4 (.inr (by simp [Value.ownBlock]; exact fun e => h.ne e.symm))
  obtain ⟨s1, s2⟩ := hrow4.stored (j * 3 + 2) (.slice (some ⟨r, o, none⟩) n n)
  rw [← h5] at s1 s2
  have hr4 := heap_lt h4
  have hr5 : w5.heap[r]? = some (.cells (splice cur (vcnt l j) (scells l[j].values)).toArray TS (0, 0)) := (s2.block r hr4 (fun e => h.ne (by injection e))).trans h4
  have hs45 : wr.heap.size ≤ w5.heap.size := Nat.le_trans hg4.size s2.size
  have hown5 : OwnCS w5 w.heap.size 2 (xs.take (j * 3)) ((l.take j).flatMap Need.row) F := h.own.kept hs45 (fun p hp => by
    obtain ⟨p1, p2⟩ := h.inr p hp
    obtain ⟨a, m⟩ := p
    obtain rfl : a = r := p1
    have hm : m < vcnt l j := p2
    refine ⟨?_, ?_⟩
    · show w5.cell? ⟨a, m, none⟩ = wr.cell? ⟨a, m, none⟩
      rw [cell_of_row w5 a m _ _ _ hr5, cell_of_row wr a m _ _ _ h.blk]
      simpa using splice_low (cs := scells l[j].values) hm hlen
    · show w5.frozen? ⟨a, m, none⟩ = wr.frozen? ⟨a, m, none⟩
      rw [frozen_of_row w5 a m _ _ hr5, frozen_of_row wr a m _ _ h.blk])
  have hoG : ∃ G, OwnC w5 w.heap.size 2 (.slice (some ⟨r, o, none⟩) n n) (.sl 1 n (l[j].values.flatMap Str.row)) G ∧ G.Nodup ∧ ∀ p ∈ G, p.1 = r ∧ vcnt l j ≤ p.2 ∧ p.2 < vcnt l j + n := by
    by_cases h0 : 0 < n
    · rw [Str.flat]
      have hov := ho h0
      have hc := ownC_strs (w := w5) (B := w.heap.size) (f := 0) (g := r) (o := o) (c := n) (ks := l[j].values) h.base (heap_lt hr5) (by omega) hnm (fun i hi => by
        rw [cell_of_row w5 r _ _ _ _ hr5, hov]
        have := splice_in (L := cur) (o := vcnt l j) (cs := scells l[j].values) (i := i) (by rw [scells_length]; exact hi) hlen
        rw [scells_get _ i hi] at this
        simpa using this) (fun i _ => frozen_of_row w5 r _ _ _ hr5) hz
      rw [← hn] at hc
      refine ⟨_, hc, span_nodup _ _ _, fun p hp => ?_⟩
      obtain ⟨a1, a2, a3⟩ := mem_span.1 hp
      exact ⟨a1, by omega, by omega⟩
    · have hn0 : n = 0 := by omega
      have hv : l[j].values = [] := List.eq_nil_of_length_eq_zero (by omega)
      rw [hv, hn0]
      exact ⟨[], ownC_none (by simp [maxLen]), List.nodup_nil, fun p hp => by simp at hp⟩
  obtain ⟨G, hG, hGn, hGr⟩ := hoG
  refine ⟨G, s1, ?_, ?_, List.nodup_append.2 ⟨h.nod, hGn, fun a ha b hb e => ?_⟩, fun p hp => ?_, hr5, hsl, h.ne, h.base, ?_⟩
  · rw [List.drop_set_of_lt (by omega), show (j + 1) * 3 = j * 3 + 3 by omega, ← List.drop_drop, ← List.drop_drop, h.drop]
  · rw [show (j + 1) * 3 = j * 3 + 3 by omega, take_set3 e0 e1 e2, show (l.take (j + 1)).flatMap Need.row = (l.take j).flatMap Need.row ++ l[j].row by rw [List.take_succ_eq_append_getElem hlt, List.flatMap_append]; simp]
    refine hown5.append ?_
    have := OwnCS.cons (ownC_str (w := w5) (B := w.heap.size) (f := 1) hwf.1) (OwnCS.cons (ownC_int (w := w5) (B := w.heap.size) (f := 1) hwf.2) (OwnCS.cons hG OwnCS.nil))
    simp only [List.nil_append, List.append_nil] at this
    unfold Need.row
    rw [← hn]
    exact this
  · subst e
    have h1 := (h.inr a ha).2
    have h2 := (hGr a hb).2.1
    omega
  · rw [vcnt_next hlt, ← hn]
    rcases List.mem_append.1 hp with hp | hp
    · have := h.inr p hp
      exact ⟨this.1, by omega⟩
    · have := hGr p hp
      exact ⟨this.1, this.2.2⟩
  · exact (h.bel.grown hg4 h.bel.size (fun q hq => by injection hq with hq; rw [← hq]; exact h.base)).grown s2 (Nat.le_trans h.bel.size hg4.size) (fun q hq => by injection hq with hq; rw [← hq]; exact hxl.1)
theorem Cp.done {w wr : World} {IT TS : TypeId} {x c1 r N : Nat} {l : List Need} {raw xs cur : List Value} {F : List Cl} (h : Cp w IT TS x c1 r N l raw l.length xs F cur wr) :
    OwnRowC wr w.heap.size 2 IT 3 (.slice (some ⟨x, 0, none⟩) l.length c1) l.length (l.flatMap Need.row) := by
  have ho := h.own
  have hl := h.row.1
  rw [List.take_of_length_le (by omega), List.take_length] at ho
  exact ⟨xs, F, h.row, by rw [flat_length' Need.row_length], ho, h.nod, fun p hp e => h.ne (by
    have := (h.inr p hp).1
    simp [Value.ownBlock] at e
    omega)⟩
theorem wpList_copy_grown {P : Program} {w : World} {ops : Array Oper} {rest : List Oper} {o : Oper} {a : Act} {Q : Exit → Act → World → Prop} (hgd : o.guard = none) (d s : Operand) (dT sT : TypeId)
    (ho : o.op = .call { callee := .builtin .copy, args := #[d, s], argTypes := #[dT, sT] }) (elem : TypeId) (hu : P.underlying dT = some (.slice elem)) (hsz : (P.info? elem).map (·.size) = some 1)
    (dp sp : Option Addr) (dLen dCap sLen sCap : Nat) (hd : a.eval d = .slice dp dLen dCap) (hs : a.eval s = .slice sp sLen sCap)
    (g off : Nat) (cur : List Value) (t : TypeId) (hg : w.heap[g]? = some (.cells cur.toArray t (0, 0))) (cs : List Value) (hn : cs.length = Nat.min sLen dLen)
    (hpos : 0 < cs.length → dp = some ⟨g, off, none⟩ ∧ ∃ ad, sp = some ad ∧ ∀ j v, cs[j]? = some v → w.cell? (ad.add j) = some v)
    (hfit : off + cs.length ≤ cur.length) (h1 : ∀ v ∈ cs, v.oneCell' = true)
    (h : ∀ w', w'.heap[g]? = some (.cells (splice cur off cs).toArray t (0, 0)) → w.grownBy w' (some g) → wpList P ops Q rest (a.put o.dst (goInt cs.length)) w') :
    wpList P ops Q (o :: rest) a w := by
  by_cases h0 : cs.length = 0
  · obtain rfl : cs = [] := List.eq_nil_of_length_eq_zero h0
    refine wpList_copy_nothing hgd d s dT sT ho elem hu hsz dp sp dLen dCap sLen sCap hd hs (by simpa using hn.symm) ?_
    exact h w (by simpa [splice] using hg) (World.grownBy.refl _ _)
  · obtain ⟨rfl, ad, rfl, hsrc⟩ := hpos (by omega)
    refine wpList_copy_own hgd d s dT sT ho elem hu hsz g off dLen dCap ad sLen sCap hd hs cur.toArray t hg cs hn hsrc (by simpa using hfit) h1 ?_
    exact h _ (by simpa [splice] using setRow_heap w g _ _ t _ hg) ⟨rfl, rfl, rfl, by simp [World.setRow], fun k hk hne => setRow_other w g k _ (fun e => hne (by rw [e]))⟩
end Go.Proofs.YtcfbkfmkjggcdaaGreatDoor.need
