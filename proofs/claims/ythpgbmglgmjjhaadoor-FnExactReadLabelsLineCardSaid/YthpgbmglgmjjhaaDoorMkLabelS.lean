/- laws.markLabelS. Printed by gen/gen_ty.py. -/
import Derived.Test.YthpgbmglgmjjhaaDoorTyLabel
import Derived.Test.YthpgbmglgmjjhaaDoorMarkTxt
namespace Go.Proofs.YthpgbmglgmjjhaaDoor.ty
open Go.ChangeShapes Go.WideShapes Go.ChangeAt Go.RowKit
set_option linter.unusedVariables false

theorem mkLabelS_nil (k : Int) (w : World) (h0 : 0 ≤ k) (hk : k ≤ 4611686018427387904) :
    Calls Tryd.prog 23 #[.slice none 0 0, .int .i64 k] w fun e w' => e = .returned (.int .i64 k) ∧ w' = w := by
  go_enter Tryd.func23, Tryd.ntmps23
  go_wp2_with fail
  refine wp_loop_rounds 1 ?_
  rw [rounds_succ]
  go_wp2_with fail
  go_ret
  exact ⟨rfl, rfl⟩
set_option maxRecDepth 100000 in
set_option maxHeartbeats 8000000 in
theorem mkLabelS (B : Nat) (v : Value) (l : List Label) (f : Nat) (F : List Nat) (k : Int) (w : World) (hown : Own w B (f + 1) v (.sl 2 l.length (l.flatMap Label.row)) F) (hnd : F.Nodup) (h0 : 0 ≤ k) (hk : k + wsum Label.cost l ≤ 4611686018427387904) :
    Calls Tryd.prog 23 #[v, .int .i64 k] w fun e w' => e = .returned (.int .i64 (k + wsum Label.cost l)) ∧ Own w' B (f + 1) v (.sl 2 l.length ((mks Label.mark Label.cost l k).flatMap Label.row)) F ∧ KeptBut F w w' := by
  have hown' := hown
  obtain ⟨hl, ⟨rfl, hn, rfl⟩ | ⟨g, c, cur, e, Fs, rfl, h1, h2, h3, h4, hz, hF, h5, h6⟩⟩ := hown'
  · have : l = [] := List.eq_nil_of_length_eq_zero hn
    subst this
    refine (mkLabelS_nil k w h0 (by simpa [wsum] using hk)).mono ?_
    rintro e w' ⟨rfl, rfl⟩
    exact ⟨by simp [wsum], by simpa [mks] using hown, KeptBut.refl _ _⟩
  have hcm : l.length ≤ 9223372036854775807 := by unfold maxLen at h2; omega
  clear hl h3 h4 hz hF h5 h6 cur e Fs
  have Hown := Lib.hid hown
  clear hown
  go_enter Tryd.func23, Tryd.ntmps23
  go_wp2_with fail
  go_loopw [1, 5] (fun a i wr => ∃ (j : Nat), j ≤ l.length ∧ i = .int .i64 j ∧ a = .int .i64 (k + wsum Label.cost (l.take j)) ∧ Own wr B (f + 1) (.slice (some ⟨g, 0, none⟩) l.length c) (.sl 2 l.length ((mks Label.mark Label.cost (l.take j) k ++ l.drop j).flatMap Label.row)) F ∧ KeptBut F w wr) (fun _ i _ => l.length - (intOf i).toNat)
  case atStart => exact ⟨0, Nat.zero_le _, rfl, by simp [wsum], by simpa [mks] using Hown.out, KeptBut.refl _ _⟩
  case round =>
    clear Hown
    obtain ⟨j, hj, rfl, rfl, hown, hkb⟩ := hrel
    by_cases hlt : j < l.length
    · have hdrop : l.drop j = l[j] :: l.drop (j + 1) := List.drop_eq_getElem_cons hlt
      have hnext := wsum_take Label.cost hlt
      have hall := wsum_all Label.cost l (j + 1)
      have hmark := mks_next Label.mark Label.cost hlt k
      rw [hdrop, List.flatMap_append, List.flatMap_cons] at hown
      have Hmark := Lib.hid hmark
      have HL := Lib.hid (show ((mks Label.mark Label.cost (l.take j) k).flatMap Label.row).length = j * 2 by rw [flat_length' Label.row_length, mks_length, List.length_take]; congr 1; omega)
      have Hnext := Lib.hid hnext
      obtain ⟨a0, a1, hx⟩ : ∃ a0 a1, l[j] = Label.mk a0 a1 := ⟨l[j].key, l[j].value, rfl⟩
      rw [hx] at hown Hmark Hnext hnext
      rw [show Label.cost (Label.mk a0 a1) = 2 from rfl] at Hnext hnext
      generalize wsum Label.cost (l.take j) = C0 at *
      have hkk : k + C0 + 2 ≤ 4611686018427387904 := by omega
      clear hmark hnext hall hx hdrop
      obtain ⟨K, hK⟩ : ∃ K, k + C0 = K := ⟨_, rfl⟩
      rw [hK] at hkk Hmark ⊢
      have hK0 : 0 ≤ K := by omega
      have HK := Lib.hid hK
      clear hK
      generalize hLL : (mks Label.mark Label.cost (l.take j) k).flatMap Label.row = L at *
      generalize hRR : (l.drop (j + 1)).flatMap Label.row = R at *
      have hown0 : Own wr B (f + 1) (.slice (some ⟨g, 0, none⟩) l.length c) (.sl 2 l.length (mid L (Label.row (Label.mk a0 a1)) R)) F := hown
      clear hown
      cases f with
      | zero =>
        obtain ⟨_, _, _, _, ho, _⟩ := Own.field hown0 hnd HL.out (r := 0) rfl
        exact ho.elim
      | succ f =>
      have HMT := Lib.hid (fun m w hm => lawMark.mark_text m w hm)
      have e2 : (K + 1) + 1 = K + 2 := by omega
      go_wp2_with fail
      refine (HMT.out K _ (by omega)).mono ?_
      rintro e x1 ⟨rfl, hb1⟩
      have on1 := Own.below hown0 hb1
      have kn1 := KeptBut.trans hkb (KeptBut.of_below hb1)
      clear hb1 hown0 hkb
      obtain ⟨o0, b0, ⟨q0, p0⟩, f0⟩ := Own.put (r := 0) (d' := .str (lawMark.mt K)) (u' := .string (lawMark.mt K)) on1 hnd HL.out rfl trivial (fun w' => own_str (lawMark.mt_size _ (by omega)))
      have k0 := KeptBut.trans kn1 b0
      simp only [Nat.add_zero] at o0 k0 p0 f0 b0
      clear b0 on1 kn1
      have Ho1 := Lib.hid o0
      have Hkb1 := Lib.hid k0
      clear o0 k0
      go_wp2_with fail
      refine (HMT.out (K + 1) _ (by omega)).mono ?_
      rintro e x2 ⟨rfl, hb2⟩
      have on2 := Own.below Ho1.out hb2
      have kn2 := KeptBut.trans Hkb1.out (KeptBut.of_below hb2)
      clear p0 f0 hb2 Ho1 Hkb1
      obtain ⟨o1, b1, ⟨q1, p1⟩, f1⟩ := Own.put (r := 1) (d' := .str (lawMark.mt (K + 1))) (u' := .string (lawMark.mt (K + 1))) on2 hnd HL.out rfl trivial (fun w' => own_str (lawMark.mt_size _ (by omega)))
      have k1 := KeptBut.trans kn2 b1
      clear b1 on2 kn2
      have Ho9 : Hid (Own (x2.setCell ⟨g, j * 2 + 1, none⟩ (.string (lawMark.mt (K + 1)))) B (f + 1 + 1) (.slice (some ⟨g, 0, none⟩) l.length c) (.sl 2 l.length ((mks Label.mark Label.cost (l.take (j + 1)) k ++ l.drop (j + 1)).flatMap Label.row)) F) := by
        unfold Hid
        rw [Hmark.out, List.flatMap_append, List.flatMap_cons, hLL, hRR]
        exact o1
      have Hkb9 := Lib.hid k1
      clear o1 k1 HMT
      go_wp2_with fail
      go_roundw
      case rel => exact ⟨j + 1, by omega, by go_num, by rw [Hnext.out]; have := HK.out; congr 1; omega, Ho9.out, Hkb9.out⟩
      case measure => simp [intOf]; omega
    · obtain rfl : j = l.length := by omega
      rw [List.take_of_length_le (Nat.le_refl _), List.drop_of_length_le (Nat.le_refl _), List.append_nil] at hown
      have Hown := Lib.hid hown
      have Hkb := Lib.hid hkb
      clear hown hkb
      rw [List.take_of_length_le (Nat.le_refl _)]
      go_wp2_with fail
      go_ret
      exact ⟨rfl, Hown.out, Hkb.out⟩
end Go.Proofs.YthpgbmglgmjjhaaDoor.ty
