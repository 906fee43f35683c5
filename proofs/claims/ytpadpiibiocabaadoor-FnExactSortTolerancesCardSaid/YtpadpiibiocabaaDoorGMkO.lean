/- Merged: MkToleranceS HdToleranceS. -/
import Derived.Test.YtpadpiibiocabaaDoorGTn
import Derived.Test.YtpadpiibiocabaaDoorMarkTxt
namespace Go.Proofs.YtpadpiibiocabaaDoor.ty
open Go.ChangeShapes Go.WideShapes Go.ChangeAt Go.RowKit
set_option linter.unusedVariables false

theorem mkToleranceS_nil (k : Int) (w : World) (h0 : 0 ≤ k) (hk : k ≤ 4611686018427387904) :
    Calls Tryd.prog 43 #[.slice none 0 0, .int .i64 k] w fun e w' => e = .returned (.int .i64 k) ∧ w' = w := by
  go_enter Tryd.func43, Tryd.ntmps43
  go_wp2_with fail
  refine wp_loop_rounds 1 ?_
  rw [rounds_succ]
  go_wp2_with fail
  go_ret
  exact ⟨rfl, rfl⟩
set_option maxRecDepth 100000 in
set_option maxHeartbeats 8000000 in
theorem mkToleranceS (B : Nat) (v : Value) (l : List Tolerance) (f : Nat) (F : List Nat) (k : Int) (w : World) (hown : Own w B (f + 1) v (.sl 4 l.length (l.flatMap Tolerance.row)) F) (hnd : F.Nodup) (h0 : 0 ≤ k) (hk : k + wsum Tolerance.cost l ≤ 4611686018427387904) :
    Calls Tryd.prog 43 #[v, .int .i64 k] w fun e w' => e = .returned (.int .i64 (k + wsum Tolerance.cost l)) ∧ Own w' B (f + 1) v (.sl 4 l.length ((mks Tolerance.mark Tolerance.cost l k).flatMap Tolerance.row)) F ∧ KeptBut F w w' := by
  have hown' := hown
  obtain ⟨hl, ⟨rfl, hn, rfl⟩ | ⟨g, c, cur, e, Fs, rfl, h1, h2, h3, h4, hz, hF, h5, h6⟩⟩ := hown'
  · have : l = [] := List.eq_nil_of_length_eq_zero hn
    subst this
    refine (mkToleranceS_nil k w h0 (by simpa [wsum] using hk)).mono ?_
    rintro e w' ⟨rfl, rfl⟩
    exact ⟨by simp [wsum], by simpa [mks] using hown, KeptBut.refl _ _⟩
  have hcm : l.length ≤ 9223372036854775807 := by unfold maxLen at h2; omega
  clear hl h3 h4 hz hF h5 h6 cur e Fs
  have Hown := Lib.hid hown
  clear hown
  go_enter Tryd.func43, Tryd.ntmps43
  go_wp2_with fail
  go_loopw [1, 5] (fun a i wr => ∃ (j : Nat), j ≤ l.length ∧ i = .int .i64 j ∧ a = .int .i64 (k + wsum Tolerance.cost (l.take j)) ∧ Own wr B (f + 1) (.slice (some ⟨g, 0, none⟩) l.length c) (.sl 4 l.length ((mks Tolerance.mark Tolerance.cost (l.take j) k ++ l.drop j).flatMap Tolerance.row)) F ∧ KeptBut F w wr) (fun _ i _ => l.length - (intOf i).toNat)
  case atStart => exact ⟨0, Nat.zero_le _, rfl, by simp [wsum], by simpa [mks] using Hown.out, KeptBut.refl _ _⟩
  case round =>
    clear Hown
    obtain ⟨j, hj, rfl, rfl, hown, hkb⟩ := hrel
    by_cases hlt : j < l.length
    · have hdrop : l.drop j = l[j] :: l.drop (j + 1) := List.drop_eq_getElem_cons hlt
      have hnext := wsum_take Tolerance.cost hlt
      have hall := wsum_all Tolerance.cost l (j + 1)
      have hmark := mks_next Tolerance.mark Tolerance.cost hlt k
      rw [hdrop, List.flatMap_append, List.flatMap_cons] at hown
      have Hmark := Lib.hid hmark
      have HL := Lib.hid (show ((mks Tolerance.mark Tolerance.cost (l.take j) k).flatMap Tolerance.row).length = j * 4 by rw [flat_length' Tolerance.row_length, mks_length, List.length_take]; congr 1; omega)
      have Hnext := Lib.hid hnext
      obtain ⟨a0, a1, a2, a3, hx⟩ : ∃ a0 a1 a2 a3, l[j] = Tolerance.mk a0 a1 a2 a3 := ⟨l[j].key, l[j].equal, l[j].value, l[j].effect, rfl⟩
      rw [hx] at hown Hmark Hnext hnext
      rw [show Tolerance.cost (Tolerance.mk a0 a1 a2 a3) = 4 from rfl] at Hnext hnext
      generalize wsum Tolerance.cost (l.take j) = C0 at *
      have hkk : k + C0 + 4 ≤ 4611686018427387904 := by omega
      clear hmark hnext hall hx hdrop
      obtain ⟨K, hK⟩ : ∃ K, k + C0 = K := ⟨_, rfl⟩
      rw [hK] at hkk Hmark ⊢
      have hK0 : 0 ≤ K := by omega
      have HK := Lib.hid hK
      clear hK
      generalize hLL : (mks Tolerance.mark Tolerance.cost (l.take j) k).flatMap Tolerance.row = L at *
      generalize hRR : (l.drop (j + 1)).flatMap Tolerance.row = R at *
      have hown0 : Own wr B (f + 1) (.slice (some ⟨g, 0, none⟩) l.length c) (.sl 4 l.length (mid L (Tolerance.row (Tolerance.mk a0 a1 a2 a3)) R)) F := hown
      clear hown
      cases f with
      | zero =>
        obtain ⟨_, _, _, _, ho, _⟩ := Own.field hown0 hnd HL.out (r := 0) rfl
        exact ho.elim
      | succ f =>
      have HMT := Lib.hid (fun m w hm => lawMark.mark_text m w hm)
      have e2 : (K + 1) + 1 = K + 2 := by omega
      have e3 : (K + 2) + 1 = K + 3 := by omega
      have e4 : (K + 3) + 1 = K + 4 := by omega
      go_wp2_with fail
      refine (HMT.out K _ (by omega)).mono ?_
      rintro e x1 ⟨rfl, hb1⟩
      have on1 := Own.below hown0 hb1
      have kn1 := KeptBut.trans hkb (KeptBut.of_below hb1)
      clear hb1 hown0 hkb
      obtain ⟨o0, b0, ⟨q0, p0⟩, f0⟩ := Own.put (r := 0) (d' := .str (lawMark.mt K)) (u' := .string (lawMark.mt K)) on1 hnd HL.out rfl trivial (fun w' => own_str (lawMark.mt_size _ (by omega)))
      have k0 := KeptBut.trans kn1 b0
      simp only [Nat.add_zero] at o0 k0 p0 f0 b0
      clear b0 on1 kn1
      obtain ⟨o1, b1, ⟨q1, p1⟩, f1⟩ := Own.put (r := 1) (d' := .bool (decide ((K + 1) % 3 = 0))) (u' := .bool ((K + 1) % 3 == 0)) o0 hnd HL.out rfl trivial (fun w' => by rw [show ((K + 1) % 3 == 0) = decide ((K + 1) % 3 = 0) from rfl]; exact own_bool)
      have k1 := KeptBut.trans k0 b1
      clear b1 o0 k0
      have Ho2 := Lib.hid o1
      have Hkb2 := Lib.hid k1
      clear o1 k1
      go_wp2_with fail
      refine (HMT.out (K + 2) _ (by omega)).mono ?_
      rintro e x2 ⟨rfl, hb2⟩
      have on2 := Own.below Ho2.out hb2
      have kn2 := KeptBut.trans Hkb2.out (KeptBut.of_below hb2)
      clear p0 f0 p1 f1 hb2 Ho2 Hkb2
      obtain ⟨o2, b2, ⟨q2, p2⟩, f2⟩ := Own.put (r := 2) (d' := .str (lawMark.mt (K + 2))) (u' := .string (lawMark.mt (K + 2))) on2 hnd HL.out rfl trivial (fun w' => own_str (lawMark.mt_size _ (by omega)))
      have k2 := KeptBut.trans kn2 b2
      clear b2 on2 kn2
      obtain ⟨o3, b3, ⟨q3, p3⟩, f3⟩ := Own.put (r := 3) (d' := .int .i64 (K + 3)) (u' := .int .i64 (K + 3)) o2 hnd HL.out rfl trivial (fun w' => own_int (lawMark.wf_of (by omega) (by omega)))
      have k3 := KeptBut.trans k2 b3
      clear b3 o2 k2
      have Ho9 : Hid (Own ((x2.setCell ⟨g, j * 4 + 2, none⟩ (.string (lawMark.mt (K + 2)))).setCell ⟨g, j * 4 + 3, none⟩ (.int .i64 (K + 3))) B (f + 1 + 1) (.slice (some ⟨g, 0, none⟩) l.length c) (.sl 4 l.length ((mks Tolerance.mark Tolerance.cost (l.take (j + 1)) k ++ l.drop (j + 1)).flatMap Tolerance.row)) F) := by
        unfold Hid
        rw [Hmark.out, List.flatMap_append, List.flatMap_cons, hLL, hRR]
        exact o3
      have Hkb9 := Lib.hid k3
      clear o3 k3 HMT
      go_wp2_with fail
      go_roundw
      case rel => exact ⟨j + 1, by omega, by go_num, by rw [Hnext.out]; have := HK.out; congr 1; omega, Ho9.out, Hkb9.out⟩
      case measure => simp [intOf]; omega
    · obtain rfl : j = l.length := by omega
      rw [List.take_of_length_le (Nat.le_refl _), List.drop_of_length_le (Nat.le_refl _), List.append_nil] at hown
      have Hown := Lib.hid hown
      have Hkb := Lib.hid hkb
      clear hown hkb
      rw [List.take_of_length_le (Nat.le_refl _)]
      go_wp2_with fail
      go_ret
      exact ⟨rfl, Hown.out, Hkb.out⟩
end Go.Proofs.YtpadpiibiocabaaDoor.ty
namespace Go.Proofs.YtpadpiibiocabaaDoor.ty
open Go.ChangeShapes Go.WideShapes Go.ChangeAt Go.RowKit
set_option linter.unusedVariables false

set_option maxRecDepth 100000 in
set_option maxHeartbeats 8000000 in
theorem hdToleranceS (l : List Tolerance) (f : Nat) (v : Value) (k : Int) (w : World) (h : Lies w f v (.sl 4 l.length ((mks Tolerance.mark Tolerance.cost l k).flatMap Tolerance.row))) (h0 : 0 ≤ k) (hkk : k + wsum Tolerance.cost l ≤ 4611686018427387904) :
    Calls Tryd.prog 44 #[v, .int .i64 k] w fun e w' => e = .returned (.int .i64 (k + wsum Tolerance.cost l)) ∧ Below w.heap.size w w' := by
  have hml := mks_length Tolerance.mark Tolerance.cost l k
  rw [← hml] at h
  obtain ⟨A, c, rfl, hc1, hc2, f', rfl, hk⟩ := els_of Tolerance.row_length h
  rw [hml] at hc1 ⊢
  unfold maxLen at hc2
  have Hk := Lib.hid hk
  have Hml := Lib.hid hml
  clear h hk hml
  go_enter Tryd.func44, Tryd.ntmps44
  go_wp2_with fail
  go_loopw [1, 5] (fun a i wr => ∃ (j : Nat), j ≤ l.length ∧ i = .int .i64 j ∧ a = .int .i64 (k + wsum Tolerance.cost (l.take j)) ∧ Below w.heap.size w wr) (fun _ i _ => l.length - (intOf i).toNat)
  case atStart => exact ⟨0, Nat.zero_le _, rfl, by simp [wsum], Below.refl _ _⟩
  case round =>
    obtain ⟨j, hj, rfl, rfl, hbel⟩ := hrel
    by_cases hlt : j < l.length
    · obtain ⟨g, o, rfl, hg, hcc⟩ := (Hk.out.below hbel) (by rw [Hml.out]; omega)
      obtain ⟨us, hus, hc, hls⟩ := hcc j _ (mks_get Tolerance.mark Tolerance.cost hlt k)
      obtain ⟨rfl, hwf⟩ := Tolerance.opened hls
      have hnext := wsum_take Tolerance.cost hlt
      have hall := wsum_all Tolerance.cost l (j + 1)
      have Hnext := Lib.hid hnext
      rw [show Tolerance.cost l[j] = 4 from rfl] at Hnext hnext
      generalize wsum Tolerance.cost (l.take j) = C0 at *
      have hkk2 : k + C0 + 4 ≤ 4611686018427387904 := by omega
      obtain ⟨K, hK⟩ : ∃ K, k + C0 = K := ⟨_, rfl⟩
      rw [hK] at hc hkk2 ⊢
      have q0 : wr.cell? ⟨g, o + j * 4, none⟩ = some (.string (lawMark.mt K)) := hc 0 _ rfl
      have q1 : wr.cell? ⟨g, o + j * 4 + 1, none⟩ = some (.bool (decide ((K + 1) % 3 = 0))) := hc 1 _ rfl
      rw [show decide ((K + 1) % 3 = 0) = ((K + 1) % 3 == 0) from rfl] at q1
      have ef1 : (((K + 1) % 3 == 0) == ((K + 1) % 3 == 0)) = true := by simp
      have q2 : wr.cell? ⟨g, o + j * 4 + 2, none⟩ = some (.string (lawMark.mt (K + 2))) := hc 2 _ rfl
      have q3 : wr.cell? ⟨g, o + j * 4 + 3, none⟩ = some (.int .i64 (K + 3)) := hc 3 _ rfl
      have e2 : (K + 1) + 1 = K + 2 := by omega
      have e3 : (K + 2) + 1 = K + 3 := by omega
      have e4 : (K + 3) + 1 = K + 4 := by omega
      have HK := Lib.hid hK
      have hK0 : 0 ≤ K := by omega
      have HMT := Lib.hid (fun m w hm => lawMark.mark_text m w hm)
      have Hbel := Lib.hid hbel
      clear hcc hus hc hls hwf hnext hall hbel hK
      go_wp2_with fail
      go_region_law (go_simp; go_at_call 71; refine (HMT.out K _ (by omega)).mono ?_; rintro e y1 ⟨rfl, hb1⟩; have r1_0 : y1.cell? ⟨g, o + j * 4, none⟩ = some (.string (lawMark.mt K)) := (hb1.cell (p := ⟨g, o + j * 4, none⟩) hg).trans q0; have r1_1 : y1.cell? ⟨g, o + j * 4 + 1, none⟩ = some (.bool ((K + 1) % 3 == 0)) := (hb1.cell (p := ⟨g, o + j * 4 + 1, none⟩) hg).trans q1; have r1_2 : y1.cell? ⟨g, o + j * 4 + 2, none⟩ = some (.string (lawMark.mt (K + 2))) := (hb1.cell (p := ⟨g, o + j * 4 + 2, none⟩) hg).trans q2; have r1_3 : y1.cell? ⟨g, o + j * 4 + 3, none⟩ = some (.int .i64 (K + 3)) := (hb1.cell (p := ⟨g, o + j * 4 + 3, none⟩) hg).trans q3)
      all_goals
        have hg1 : g < y1.heap.size := Nat.lt_of_lt_of_le hg hb1.size
        have Hbel1 := Lib.hid (below_link Hbel.out ((Below.refl _ _).drew.trans (hb1.mono (Nat.le_refl _))) (Below.size Hbel.out))
        clear hb1 q0 q1 q2 q3
        go_wp2_with fail
        go_region_law (go_simp; go_at_call 71; refine (HMT.out (K + 2) _ (by omega)).mono ?_; rintro e y2 ⟨rfl, hb2⟩; have r2_2 : y2.cell? ⟨g, o + j * 4 + 2, none⟩ = some (.string (lawMark.mt (K + 2))) := (hb2.cell (p := ⟨g, o + j * 4 + 2, none⟩) hg1).trans r1_2; have r2_3 : y2.cell? ⟨g, o + j * 4 + 3, none⟩ = some (.int .i64 (K + 3)) := (hb2.cell (p := ⟨g, o + j * 4 + 3, none⟩) hg1).trans r1_3)
        all_goals
          have hg2 : g < y2.heap.size := Nat.lt_of_lt_of_le hg1 hb2.size
          have Hbel2 := Lib.hid (below_link Hbel1.out ((Below.refl _ _).drew.trans (hb2.mono (Nat.le_refl _))) (Below.size Hbel1.out))
          clear hb2 r1_0 r1_1 r1_2 r1_3
          go_wp2_with fail
          go_roundw
          case rel => exact ⟨j + 1, by omega, by go_num, by rw [Hnext.out]; have := HK.out; congr 1; omega, Hbel2.out⟩
          case measure => simp [intOf]; omega
    · obtain rfl : j = l.length := by omega
      rw [List.take_of_length_le (Nat.le_refl _)]
      have Hbel := Lib.hid hbel
      clear hbel
      go_wp2_with fail
      go_ret
      exact ⟨rfl, Hbel.out⟩
end Go.Proofs.YtpadpiibiocabaaDoor.ty
