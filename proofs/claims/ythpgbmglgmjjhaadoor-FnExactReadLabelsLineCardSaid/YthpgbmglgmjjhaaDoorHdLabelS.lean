/- laws.heldLabelS. Printed by gen/gen_ty.py. -/
import Derived.Test.YthpgbmglgmjjhaaDoorTyLabel
import Derived.Test.YthpgbmglgmjjhaaDoorMarkTxt
namespace Go.Proofs.YthpgbmglgmjjhaaDoor.ty
open Go.ChangeShapes Go.WideShapes Go.ChangeAt Go.RowKit
set_option linter.unusedVariables false

set_option maxRecDepth 100000 in
set_option maxHeartbeats 8000000 in
theorem hdLabelS (l : List Label) (f : Nat) (v : Value) (k : Int) (w : World) (h : Lies w f v (.sl 2 l.length ((mks Label.mark Label.cost l k).flatMap Label.row))) (h0 : 0 ≤ k) (hkk : k + wsum Label.cost l ≤ 4611686018427387904) :
    Calls Tryd.prog 24 #[v, .int .i64 k] w fun e w' => e = .returned (.int .i64 (k + wsum Label.cost l)) ∧ Below w.heap.size w w' := by
  have hml := mks_length Label.mark Label.cost l k
  rw [← hml] at h
  obtain ⟨A, c, rfl, hc1, hc2, f', rfl, hk⟩ := els_of Label.row_length h
  rw [hml] at hc1 ⊢
  unfold maxLen at hc2
  have Hk := Lib.hid hk
  have Hml := Lib.hid hml
  clear h hk hml
  go_enter Tryd.func24, Tryd.ntmps24
  go_wp2_with fail
  go_loopw [1, 5] (fun a i wr => ∃ (j : Nat), j ≤ l.length ∧ i = .int .i64 j ∧ a = .int .i64 (k + wsum Label.cost (l.take j)) ∧ Below w.heap.size w wr) (fun _ i _ => l.length - (intOf i).toNat)
  case atStart => exact ⟨0, Nat.zero_le _, rfl, by simp [wsum], Below.refl _ _⟩
  case round =>
    obtain ⟨j, hj, rfl, rfl, hbel⟩ := hrel
    by_cases hlt : j < l.length
    · obtain ⟨g, o, rfl, hg, hcc⟩ := (Hk.out.below hbel) (by rw [Hml.out]; omega)
      obtain ⟨us, hus, hc, hls⟩ := hcc j _ (mks_get Label.mark Label.cost hlt k)
      obtain ⟨rfl, hwf⟩ := Label.opened hls
      have hnext := wsum_take Label.cost hlt
      have hall := wsum_all Label.cost l (j + 1)
      have Hnext := Lib.hid hnext
      rw [show Label.cost l[j] = 2 from rfl] at Hnext hnext
      generalize wsum Label.cost (l.take j) = C0 at *
      have hkk2 : k + C0 + 2 ≤ 4611686018427387904 := by omega
      obtain ⟨K, hK⟩ : ∃ K, k + C0 = K := ⟨_, rfl⟩
      rw [hK] at hc hkk2 ⊢
      have q0 : wr.cell? ⟨g, o + j * 2, none⟩ = some (.string (lawMark.mt K)) := hc 0 _ rfl
      have q1 : wr.cell? ⟨g, o + j * 2 + 1, none⟩ = some (.string (lawMark.mt (K + 1))) := hc 1 _ rfl
      have e2 : (K + 1) + 1 = K + 2 := by omega
      have HK := Lib.hid hK
      have hK0 : 0 ≤ K := by omega
      have HMT := Lib.hid (fun m w hm => lawMark.mark_text m w hm)
      have Hbel := Lib.hid hbel
      clear hcc hus hc hls hwf hnext hall hbel hK
      go_wp2_with fail
      go_region_law (go_simp; go_at_call 44; refine (HMT.out K _ (by omega)).mono ?_; rintro e y1 ⟨rfl, hb1⟩; have r1_0 : y1.cell? ⟨g, o + j * 2, none⟩ = some (.string (lawMark.mt K)) := (hb1.cell (p := ⟨g, o + j * 2, none⟩) hg).trans q0; have r1_1 : y1.cell? ⟨g, o + j * 2 + 1, none⟩ = some (.string (lawMark.mt (K + 1))) := (hb1.cell (p := ⟨g, o + j * 2 + 1, none⟩) hg).trans q1)
      all_goals
        have hg1 : g < y1.heap.size := Nat.lt_of_lt_of_le hg hb1.size
        have Hbel1 := Lib.hid (below_link Hbel.out ((Below.refl _ _).drew.trans (hb1.mono (Nat.le_refl _))) (Below.size Hbel.out))
        clear hb1 q0 q1
        go_wp2_with fail
        go_region_law (go_simp; go_at_call 44; refine (HMT.out (K + 1) _ (by omega)).mono ?_; rintro e y2 ⟨rfl, hb2⟩; have r2_1 : y2.cell? ⟨g, o + j * 2 + 1, none⟩ = some (.string (lawMark.mt (K + 1))) := (hb2.cell (p := ⟨g, o + j * 2 + 1, none⟩) hg1).trans r1_1)
        all_goals
          have hg2 : g < y2.heap.size := Nat.lt_of_lt_of_le hg1 hb2.size
          have Hbel2 := Lib.hid (below_link Hbel1.out ((Below.refl _ _).drew.trans (hb2.mono (Nat.le_refl _))) (Below.size Hbel1.out))
          clear hb2 r1_0 r1_1
          go_wp2_with fail
          go_roundw
          case rel => exact ⟨j + 1, by omega, by go_num, by rw [Hnext.out]; have := HK.out; congr 1; omega, Hbel2.out⟩
          case measure => simp [intOf]; omega
    · obtain rfl : j = l.length := by omega
      rw [List.take_of_length_le (Nat.le_refl _)]
      have Hbel := Lib.hid hbel
      clear hbel
      go_wp2_with fail
      go_ret
      exact ⟨rfl, Hbel.out⟩
end Go.Proofs.YthpgbmglgmjjhaaDoor.ty
