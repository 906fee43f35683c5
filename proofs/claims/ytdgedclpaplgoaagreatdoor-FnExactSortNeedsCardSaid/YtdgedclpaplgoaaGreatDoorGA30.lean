/- Merged: MkStrC MkNeedSC. -/
import Derived.Test.YtdgedclpaplgoaaGreatDoorGA7
import Derived.Test.YtdgedclpaplgoaaGreatDoorGA29
import Derived.Test.YtdgedclpaplgoaaGreatDoorOwnC
namespace Go.Proofs.YtdgedclpaplgoaaGreatDoor.ty
open Go.ChangeShapes Go.WideShapes Go.ChangeAt Go.RowKit
set_option linter.unusedVariables false

theorem mkStrC_nil (A : Option Addr) (c : Nat) (k : Int) (w : World) (h0 : 0 ≤ k) (hk : k ≤ 4611686018427387904) :
    Calls Tryz.prog 68 #[.slice A 0 c, .int .i64 k] w fun e w' => e = .returned (.int .i64 k) ∧ w' = w := by
  go_enter Tryz.func68, Tryz.ntmps68
  go_wp2_with fail
  refine wp_loop_rounds 1 ?_
  rw [rounds_succ]
  go_wp2_with fail
  go_ret
  exact ⟨rfl, rfl⟩
set_option maxRecDepth 100000 in
set_option maxHeartbeats 8000000 in
theorem mkStrC (B : Nat) (v : Value) (l : List ByteArray) (f : Nat) (F : List Cl) (k : Int) (w : World) (hown : OwnC w B (f + 1) v (.sl 1 l.length (l.flatMap Str.row)) F) (hnd : F.Nodup) (h0 : 0 ≤ k) (hk : k + wsum Str.cost l ≤ 4611686018427387904) :
    Calls Tryz.prog 68 #[v, .int .i64 k] w fun e w' => e = .returned (.int .i64 (k + wsum Str.cost l)) ∧ OwnC w' B (f + 1) v (.sl 1 l.length ((mks Str.mark Str.cost l k).flatMap Str.row)) F ∧ KeptC F w w' := by
  obtain ⟨A, c, rfl, h1, h2⟩ := hown.is_slice
  by_cases hn0 : 0 < l.length
  case neg =>
    have : l = [] := List.eq_nil_of_length_eq_zero (by omega)
    subst this
    refine (mkStrC_nil A c k w h0 (by simpa [wsum] using hk)).mono ?_
    rintro e w' ⟨rfl, rfl⟩
    exact ⟨by simp [wsum], by simpa [mks] using hown, KeptC.refl _ _⟩
  obtain ⟨g, bo, rfl, _⟩ := hown.pos hn0
  have HP := Lib.hid hn0
  have hcm : l.length ≤ 9223372036854775807 := by unfold maxLen at h2; omega
  clear hn0
  have Hown := Lib.hid hown
  clear hown
  go_enter Tryz.func68, Tryz.ntmps68
  go_wp2_with fail
  go_loopw [1, 5] (fun a i wr => ∃ (j : Nat), j ≤ l.length ∧ i = .int .i64 j ∧ a = .int .i64 (k + wsum Str.cost (l.take j)) ∧ OwnC wr B (f + 1) (.slice (some ⟨g, bo, none⟩) l.length c) (.sl 1 l.length ((mks Str.mark Str.cost (l.take j) k ++ l.drop j).flatMap Str.row)) F ∧ KeptC F w wr) (fun _ i _ => l.length - (intOf i).toNat)
  case atStart => exact ⟨0, Nat.zero_le _, rfl, by simp [wsum], by simpa [mks] using Hown.out, KeptC.refl _ _⟩
  case round =>
    clear Hown
    obtain ⟨j, hj, rfl, rfl, hown, hkb⟩ := hrel
    by_cases hlt : j < l.length
    · have hdrop : l.drop j = l[j] :: l.drop (j + 1) := List.drop_eq_getElem_cons hlt
      have hnext := wsum_take Str.cost hlt
      have hall := wsum_all Str.cost l (j + 1)
      have hmark := mks_next Str.mark Str.cost hlt k
      rw [hdrop, List.flatMap_append, List.flatMap_cons] at hown
      have Hmark := Lib.hid hmark
      have HL := Lib.hid (show ((mks Str.mark Str.cost (l.take j) k).flatMap Str.row).length = j by rw [flat_length' (sz := 1) Str.row_length, mks_length, List.length_take]; omega)
      have Hnext := Lib.hid hnext
      obtain ⟨a0, hx⟩ : ∃ a0, l[j] = a0 := ⟨l[j], rfl⟩
      rw [hx] at hown Hmark Hnext hnext
      rw [show Str.cost a0 = 1 from rfl] at Hnext hnext
      generalize wsum Str.cost (l.take j) = C0 at *
      have hkk : k + C0 + 1 ≤ 4611686018427387904 := by omega
      clear hmark hnext hall hx hdrop
      obtain ⟨K, hK⟩ : ∃ K, k + C0 = K := ⟨_, rfl⟩
      rw [hK] at hkk Hmark ⊢
      have hK0 : 0 ≤ K := by omega
      have HK := Lib.hid hK
      clear hK
      generalize hLL : (mks Str.mark Str.cost (l.take j) k).flatMap Str.row = L at *
      generalize hRR : (l.drop (j + 1)).flatMap Str.row = R at *
      have hown0 : OwnC wr B (f + 1) (.slice (some ⟨g, bo, none⟩) l.length c) (.sl 1 l.length (mid L [.str a0] R)) F := hown
      clear hown
      cases f with
      | zero =>
        obtain ⟨_, _, _, _, ho, _⟩ := OwnC.field hown0 HP.out hnd HL.out (r := 0) rfl
        exact ho.elim
      | succ f =>
      have HMT := Lib.hid (fun m w hm => lawMark.mark_text m w hm)
      go_wp2_with fail
      refine (HMT.out K _ (by omega)).mono ?_
      rintro e x1 ⟨rfl, hb1⟩
      have on1 := OwnC.below hown0 hb1
      have kn1 := KeptC.trans hkb (KeptC.of_below hb1)
      clear hb1 hown0 hkb
      obtain ⟨o0, b0, ⟨q0, p0⟩, f0⟩ := OwnC.put (r := 0) (d' := .str (lawMark.mt K)) (u' := .string (lawMark.mt K)) on1 HP.out hnd HL.out rfl trivial (fun w' => ownC_str (lawMark.mt_size _ (by omega)))
      have k0 := KeptC.trans kn1 b0
      simp only [Nat.add_zero] at o0 k0 p0 f0 b0
      clear b0 on1 kn1
      have Ho9 : Hid (OwnC (x1.setCell ⟨g, bo + j, none⟩ (.string (lawMark.mt K))) B (f + 1 + 1) (.slice (some ⟨g, bo, none⟩) l.length c) (.sl 1 l.length ((mks Str.mark Str.cost (l.take (j + 1)) k ++ l.drop (j + 1)).flatMap Str.row)) F) := by
        unfold Hid
        rw [Hmark.out, List.flatMap_append, List.flatMap_cons, hLL, hRR]
        exact o0
      have Hkb9 := Lib.hid k0
      clear o0 k0 HMT
      go_wp2_with fail
      go_roundw
      case rel => exact ⟨j + 1, by omega, by go_num, by rw [Hnext.out]; have := HK.out; congr 1; omega, Ho9.out, Hkb9.out⟩
      case measure => simp [intOf]; omega
    · obtain rfl : j = l.length := by omega
      rw [List.take_of_length_le (Nat.le_refl _), List.drop_of_length_le (Nat.le_refl _), List.append_nil] at hown
      have Hown := Lib.hid hown
      have Hkb := Lib.hid hkb
      clear hown hkb
      rw [List.take_of_length_le (Nat.le_refl _)]
      go_wp2_with fail
      go_ret
      exact ⟨rfl, Hown.out, Hkb.out⟩
end Go.Proofs.YtdgedclpaplgoaaGreatDoor.ty
namespace Go.Proofs.YtdgedclpaplgoaaGreatDoor.ty
open Go.ChangeShapes Go.WideShapes Go.ChangeAt Go.RowKit
set_option linter.unusedVariables false

theorem mkNeedSC_nil (A : Option Addr) (c : Nat) (k : Int) (w : World) (h0 : 0 ≤ k) (hk : k ≤ 4611686018427387904) :
    Calls Tryz.prog 28 #[.slice A 0 c, .int .i64 k] w fun e w' => e = .returned (.int .i64 k) ∧ w' = w := by
  go_enter Tryz.func28, Tryz.ntmps28
  go_wp2_with fail
  refine wp_loop_rounds 1 ?_
  rw [rounds_succ]
  go_wp2_with fail
  go_ret
  exact ⟨rfl, rfl⟩
theorem row_markNeedC (a0 a1 a2) (K : Int) : Need.row (Need.mark (Need.mk a0 a1 a2) K) = [.str (lawMark.mt (K)), .int .i64 (K + 1), .sl 1 a2.length ((mks Str.mark Str.cost a2 (K + 2)).flatMap Str.row)] := by
  unfold Need.mark Need.row
  simp only [mks_length]
set_option maxRecDepth 100000 in
set_option maxHeartbeats 8000000 in
theorem mkNeedSC (B : Nat) (v : Value) (l : List Need) (f : Nat) (F : List Cl) (k : Int) (w : World) (hown : OwnC w B (f + 1) v (.sl 3 l.length (l.flatMap Need.row)) F) (hnd : F.Nodup) (h0 : 0 ≤ k) (hk : k + wsum Need.cost l ≤ 4611686018427387904) :
    Calls Tryz.prog 28 #[v, .int .i64 k] w fun e w' => e = .returned (.int .i64 (k + wsum Need.cost l)) ∧ OwnC w' B (f + 1) v (.sl 3 l.length ((mks Need.mark Need.cost l k).flatMap Need.row)) F ∧ KeptC F w w' := by
  obtain ⟨A, c, rfl, h1, h2⟩ := hown.is_slice
  by_cases hn0 : 0 < l.length
  case neg =>
    have : l = [] := List.eq_nil_of_length_eq_zero (by omega)
    subst this
    refine (mkNeedSC_nil A c k w h0 (by simpa [wsum] using hk)).mono ?_
    rintro e w' ⟨rfl, rfl⟩
    exact ⟨by simp [wsum], by simpa [mks] using hown, KeptC.refl _ _⟩
  obtain ⟨g, bo, rfl, _⟩ := hown.pos hn0
  have HP := Lib.hid hn0
  have hcm : l.length ≤ 9223372036854775807 := by unfold maxLen at h2; omega
  clear hn0
  have Hown := Lib.hid hown
  clear hown
  go_enter Tryz.func28, Tryz.ntmps28
  go_wp2_with fail
  go_loopw [1, 5] (fun a i wr => ∃ (j : Nat), j ≤ l.length ∧ i = .int .i64 j ∧ a = .int .i64 (k + wsum Need.cost (l.take j)) ∧ OwnC wr B (f + 1) (.slice (some ⟨g, bo, none⟩) l.length c) (.sl 3 l.length ((mks Need.mark Need.cost (l.take j) k ++ l.drop j).flatMap Need.row)) F ∧ KeptC F w wr) (fun _ i _ => l.length - (intOf i).toNat)
  case atStart => exact ⟨0, Nat.zero_le _, rfl, by simp [wsum], by simpa [mks] using Hown.out, KeptC.refl _ _⟩
  case round =>
    clear Hown
    obtain ⟨j, hj, rfl, rfl, hown, hkb⟩ := hrel
    by_cases hlt : j < l.length
    · have hdrop : l.drop j = l[j] :: l.drop (j + 1) := List.drop_eq_getElem_cons hlt
      have hnext := wsum_take Need.cost hlt
      have hall := wsum_all Need.cost l (j + 1)
      have hmark := mks_next Need.mark Need.cost hlt k
      rw [hdrop, List.flatMap_append, List.flatMap_cons] at hown
      have Hmark := Lib.hid hmark
      have HL := Lib.hid (show ((mks Need.mark Need.cost (l.take j) k).flatMap Need.row).length = j * 3 by rw [flat_length' Need.row_length, mks_length, List.length_take]; congr 1; omega)
      have Hnext := Lib.hid hnext
      obtain ⟨a0, a1, a2, hx⟩ : ∃ a0 a1 a2, l[j] = Need.mk a0 a1 a2 := ⟨l[j].key, l[j].op, l[j].values, rfl⟩
      rw [hx] at hown Hmark Hnext hnext
      rw [show Need.cost (Need.mk a0 a1 a2) = 2 + wsum Str.cost a2 from rfl] at Hnext hnext
      generalize wsum Need.cost (l.take j) = C0 at *
      have hkk : k + C0 + ((2 + wsum Str.cost a2 : Nat) : Int) ≤ 4611686018427387904 := by omega
      clear hmark hnext hall hx hdrop
      obtain ⟨K, hK⟩ : ∃ K, k + C0 = K := ⟨_, rfl⟩
      rw [hK] at hkk Hmark ⊢
      have hK0 : 0 ≤ K := by omega
      have HK := Lib.hid hK
      clear hK
      generalize hLL : (mks Need.mark Need.cost (l.take j) k).flatMap Need.row = L at *
      generalize hRR : (l.drop (j + 1)).flatMap Need.row = R at *
      have hown0 : OwnC wr B (f + 1) (.slice (some ⟨g, bo, none⟩) l.length c) (.sl 3 l.length (mid L [.str a0, .int .i64 a1, .sl 1 a2.length (a2.flatMap Str.row)] R)) F := hown
      clear hown
      cases f with
      | zero =>
        obtain ⟨_, _, _, _, ho, _⟩ := OwnC.field hown0 HP.out hnd HL.out (r := 0) rfl
        exact ho.elim
      | succ f =>
      have HMT := Lib.hid (fun m w hm => lawMark.mark_text m w hm)
      have e1 : (K + 1) + 1 = K + 2 := by omega
      go_wp2_with fail
      refine (HMT.out (K) _ (by omega)).mono ?_
      rintro e x1 ⟨rfl, hb1⟩
      have on1 := OwnC.below hown0 hb1
      have kn1 := KeptC.trans hkb (KeptC.of_below hb1)
      clear hb1 hown0 hkb
      obtain ⟨o0, b0, ⟨q0, p0⟩, f0⟩ := OwnC.put (r := 0) (d' := .str (lawMark.mt (K))) (u' := .string (lawMark.mt (K))) on1 HP.out hnd HL.out rfl trivial (fun w' => ownC_str (lawMark.mt_size _ (by omega)))
      have k0 := KeptC.trans kn1 b0
      simp only [Nat.add_zero] at o0 k0 p0 f0 b0
      clear b0 on1 kn1
      obtain ⟨o1, b1, ⟨q1, p1⟩, f1⟩ := OwnC.put (r := 1) (d' := .int .i64 (K + 1)) (u' := .int .i64 (K + 1)) o0 HP.out hnd HL.out rfl trivial (fun w' => ownC_int (lawMark.wf_of (by omega) (by omega)))
      have k1 := KeptC.trans k0 b1
      clear b1 o0 k0
      obtain ⟨u2, G2, q2, _, s2, hs2, _, _, hd2, back2⟩ := OwnC.field (r := 2) (d := .sl 1 a2.length (a2.flatMap Str.row)) o1 HP.out hnd HL.out rfl
      have HM2 := Lib.hid (mkStrC B u2 a2 f G2 (K + 2) _ s2 hd2 (by omega) (by omega))
      have Hback2 := Lib.hid back2
      have Hkb2 := Lib.hid k1
      have Hs2 := Lib.hid hs2
      clear s2 hs2 hd2 back2 o1 k1
      go_wp2_with fail
      refine HM2.out.mono ?_
      rintro e x2 ⟨rfl, m2, km2⟩
      have o2 := Hback2.out x2 _ km2 m2
      have k2 := KeptC.trans Hkb2.out (km2.mono Hs2.out)
      clear HM2 Hback2 Hkb2 Hs2 km2 m2 q2 p0 f0 p1 f1
      have Ho9 : Hid (OwnC x2 B (f + 1 + 1) (.slice (some ⟨g, bo, none⟩) l.length c) (.sl 3 l.length ((mks Need.mark Need.cost (l.take (j + 1)) k ++ l.drop (j + 1)).flatMap Need.row)) F) := by
        unfold Hid
        rw [Hmark.out, List.flatMap_append, List.flatMap_cons, hLL, hRR, row_markNeedC]
        exact o2
      have Hkb9 := Lib.hid k2
      clear o2 k2 HMT
      go_wp2_with fail
      go_roundw
      case rel => exact ⟨j + 1, by omega, by go_num, by rw [Hnext.out]; have := HK.out; congr 1; omega, Ho9.out, Hkb9.out⟩
      case measure => simp [intOf]; omega
    · obtain rfl : j = l.length := by omega
      rw [List.take_of_length_le (Nat.le_refl _), List.drop_of_length_le (Nat.le_refl _), List.append_nil] at hown
      have Hown := Lib.hid hown
      have Hkb := Lib.hid hkb
      clear hown hkb
      rw [List.take_of_length_le (Nat.le_refl _)]
      go_wp2_with fail
      go_ret
      exact ⟨rfl, Hown.out, Hkb.out⟩
end Go.Proofs.YtdgedclpaplgoaaGreatDoor.ty
