/- Merged: MkToleranceS HdToleranceS TolI GrRow CofToleranceI OpToleranceS. -/
import Derived.Test.YtdgedclpaplgoaaDoorGA5
import Derived.Test.YtdgedclpaplgoaaDoorMarkTxt
import Derived.Test.YtdgedclpaplgoaaDoorGA12
import Derived.Test.YtdgedclpaplgoaaDoorGA18
import Derived.Test.YtdgedclpaplgoaaDoorGA0
import Derived.Deep.RegionHeld3
import Derived.Deep.WholeRow
import Derived.Test.YtdgedclpaplgoaaDoorGA4
import Derived.Test.YtdgedclpaplgoaaDoorOpenEl
namespace Go.Proofs.YtdgedclpaplgoaaDoor.ty
open Go.ChangeShapes Go.WideShapes Go.ChangeAt Go.RowKit
set_option linter.unusedVariables false

theorem mkToleranceS_nil (k : Int) (w : World) (h0 : 0 ≤ k) (hk : k ≤ 4611686018427387904) :
    Calls Tryd.prog 35 #[.slice none 0 0, .int .i64 k] w fun e w' => e = .returned (.int .i64 k) ∧ w' = w := by
  go_enter Tryd.func35, Tryd.ntmps35
  go_wp2_with fail
  refine wp_loop_rounds 1 ?_
  rw [rounds_succ]
  go_wp2_with fail
  go_ret
  exact ⟨rfl, rfl⟩
set_option maxRecDepth 100000 in
set_option maxHeartbeats 8000000 in
theorem mkToleranceS (B : Nat) (v : Value) (l : List Tolerance) (f : Nat) (F : List Nat) (k : Int) (w : World) (hown : Own w B (f + 1) v (.sl 4 l.length (l.flatMap Tolerance.row)) F) (hnd : F.Nodup) (h0 : 0 ≤ k) (hk : k + wsum Tolerance.cost l ≤ 4611686018427387904) :
    Calls Tryd.prog 35 #[v, .int .i64 k] w fun e w' => e = .returned (.int .i64 (k + wsum Tolerance.cost l)) ∧ Own w' B (f + 1) v (.sl 4 l.length ((mks Tolerance.mark Tolerance.cost l k).flatMap Tolerance.row)) F ∧ KeptBut F w w' := by
  have hown' := hown
  obtain ⟨hl, ⟨rfl, hn, rfl⟩ | ⟨g, c, cur, e, Fs, rfl, h1, h2, h3, h4, hz, hF, h5, h6⟩⟩ := hown'
  · have : l = [] := List.eq_nil_of_length_eq_zero hn
    subst this
    refine (mkToleranceS_nil k w h0 (by simpa [wsum] using hk)).mono ?_
    rintro e w' ⟨rfl, rfl⟩
    exact ⟨by simp [wsum], by simpa [mks] using hown, KeptBut.refl _ _⟩
  have hcm : l.length ≤ 9223372036854775807 := by unfold maxLen at h2; omega
  clear hl h3 h4 hz hF h5 h6 cur e Fs
  have Hown := Lib.hid hown
  clear hown
  go_enter Tryd.func35, Tryd.ntmps35
  go_wp2_with fail
  go_loopw [1, 5] (fun a i wr => ∃ (j : Nat), j ≤ l.length ∧ i = .int .i64 j ∧ a = .int .i64 (k + wsum Tolerance.cost (l.take j)) ∧ Own wr B (f + 1) (.slice (some ⟨g, 0, none⟩) l.length c) (.sl 4 l.length ((mks Tolerance.mark Tolerance.cost (l.take j) k ++ l.drop j).flatMap Tolerance.row)) F ∧ KeptBut F w wr) (fun _ i _ => l.length - (intOf i).toNat)
  case atStart => exact ⟨0, Nat.zero_le _, rfl, by simp [wsum], by simpa [mks] using Hown.out, KeptBut.refl _ _⟩
  case round =>
    clear Hown
    obtain ⟨j, hj, rfl, rfl, hown, hkb⟩ := hrel
    by_cases hlt : j < l.length
    · have hdrop : l.drop j = l[j] :: l.drop (j + 1) := List.drop_eq_getElem_cons hlt
      have hnext := wsum_take Tolerance.cost hlt
      have hall := wsum_all Tolerance.cost l (j + 1)
      have hmark := mks_next Tolerance.mark Tolerance.cost hlt k
      rw [hdrop, List.flatMap_append, List.flatMap_cons] at hown
      have Hmark := Lib.hid hmark
      have HL := Lib.hid (show ((mks Tolerance.mark Tolerance.cost (l.take j) k).flatMap Tolerance.row).length = j * 4 by rw [flat_length' Tolerance.row_length, mks_length, List.length_take]; congr 1; omega)
      have Hnext := Lib.hid hnext
      obtain ⟨a0, a1, a2, a3, hx⟩ : ∃ a0 a1 a2 a3, l[j] = Tolerance.mk a0 a1 a2 a3 := ⟨l[j].key, l[j].equal, l[j].value, l[j].effect, rfl⟩
      rw [hx] at hown Hmark Hnext hnext
      rw [show Tolerance.cost (Tolerance.mk a0 a1 a2 a3) = 4 from rfl] at Hnext hnext
      generalize wsum Tolerance.cost (l.take j) = C0 at *
      have hkk : k + C0 + 4 ≤ 4611686018427387904 := by omega
      clear hmark hnext hall hx hdrop
      obtain ⟨K, hK⟩ : ∃ K, k + C0 = K := ⟨_, rfl⟩
      rw [hK] at hkk Hmark ⊢
      have hK0 : 0 ≤ K := by omega
      have HK := Lib.hid hK
      clear hK
      generalize hLL : (mks Tolerance.mark Tolerance.cost (l.take j) k).flatMap Tolerance.row = L at *
      generalize hRR : (l.drop (j + 1)).flatMap Tolerance.row = R at *
      have hown0 : Own wr B (f + 1) (.slice (some ⟨g, 0, none⟩) l.length c) (.sl 4 l.length (mid L (Tolerance.row (Tolerance.mk a0 a1 a2 a3)) R)) F := hown
      clear hown
      cases f with
      | zero =>
        obtain ⟨_, _, _, _, ho, _⟩ := Own.field hown0 hnd HL.out (r := 0) rfl
        exact ho.elim
      | succ f =>
      have HMT := Lib.hid (fun m w hm => lawMark.mark_text m w hm)
      have e2 : (K + 1) + 1 = K + 2 := by omega
      have e3 : (K + 2) + 1 = K + 3 := by omega
      have e4 : (K + 3) + 1 = K + 4 := by omega
      go_wp2_with fail
      refine (HMT.out K _ (by omega)).mono ?_
      rintro e x1 ⟨rfl, hb1⟩
      have on1 := Own.below hown0 hb1
      have kn1 := KeptBut.trans hkb (KeptBut.of_below hb1)
      clear hb1 hown0 hkb
      obtain ⟨o0, b0, ⟨q0, p0⟩, f0⟩ := Own.put (r := 0) (d' := .str (lawMark.mt K)) (u' := .string (lawMark.mt K)) on1 hnd HL.out rfl trivial (fun w' => own_str (lawMark.mt_size _ (by omega)))
      have k0 := KeptBut.trans kn1 b0
      simp only [Nat.add_zero] at o0 k0 p0 f0 b0
      clear b0 on1 kn1
      obtain ⟨o1, b1, ⟨q1, p1⟩, f1⟩ := Own.put (r := 1) (d' := .bool (decide ((K + 1) % 3 = 0))) (u' := .bool ((K + 1) % 3 == 0)) o0 hnd HL.out rfl trivial (fun w' => by rw [show ((K + 1) % 3 == 0) = decide ((K + 1) % 3 = 0) from rfl]; exact own_bool)
      have k1 := KeptBut.trans k0 b1
      clear b1 o0 k0
      have Ho2 := Lib.hid o1
      have Hkb2 := Lib.hid k1
      clear o1 k1
      go_wp2_with fail
      refine (HMT.out (K + 2) _ (by omega)).mono ?_
      rintro e x2 ⟨rfl, hb2⟩
      have on2 := Own.below Ho2.out hb2
      have kn2 := KeptBut.trans Hkb2.out (KeptBut.of_below hb2)
      clear p0 f0 p1 f1 hb2 Ho2 Hkb2
      obtain ⟨o2, b2, ⟨q2, p2⟩, f2⟩ := Own.put (r := 2) (d' := .str (lawMark.mt (K + 2))) (u' := .string (lawMark.mt (K + 2))) on2 hnd HL.out rfl trivial (fun w' => own_str (lawMark.mt_size _ (by omega)))
      have k2 := KeptBut.trans kn2 b2
      clear b2 on2 kn2
      obtain ⟨o3, b3, ⟨q3, p3⟩, f3⟩ := Own.put (r := 3) (d' := .int .i64 (K + 3)) (u' := .int .i64 (K + 3)) o2 hnd HL.out rfl trivial (fun w' => own_int (lawMark.wf_of (by omega) (by omega)))
      have k3 := KeptBut.trans k2 b3
      clear b3 o2 k2
      have Ho9 : Hid (Own ((x2.setCell ⟨g, j * 4 + 2, none⟩ (.string (lawMark.mt (K + 2)))).setCell ⟨g, j * 4 + 3, none⟩ (.int .i64 (K + 3))) B (f + 1 + 1) (.slice (some ⟨g, 0, none⟩) l.length c) (.sl 4 l.length ((mks Tolerance.mark Tolerance.cost (l.take (j + 1)) k ++ l.drop (j + 1)).flatMap Tolerance.row)) F) := by
        unfold Hid
        rw [Hmark.out, List.flatMap_append, List.flatMap_cons, hLL, hRR]
        exact o3
      have Hkb9 := Lib.hid k3
      clear o3 k3 HMT
      go_wp2_with fail
      go_roundw
      case rel => exact ⟨j + 1, by omega, by go_num, by rw [Hnext.out]; have := HK.out; congr 1; omega, Ho9.out, Hkb9.out⟩
      case measure => simp [intOf]; omega
    · obtain rfl : j = l.length := by omega
      rw [List.take_of_length_le (Nat.le_refl _), List.drop_of_length_le (Nat.le_refl _), List.append_nil] at hown
      have Hown := Lib.hid hown
      have Hkb := Lib.hid hkb
      clear hown hkb
      rw [List.take_of_length_le (Nat.le_refl _)]
      go_wp2_with fail
      go_ret
      exact ⟨rfl, Hown.out, Hkb.out⟩
end Go.Proofs.YtdgedclpaplgoaaDoor.ty
namespace Go.Proofs.YtdgedclpaplgoaaDoor.ty
open Go.ChangeShapes Go.WideShapes Go.ChangeAt Go.RowKit
set_option linter.unusedVariables false

set_option maxRecDepth 100000 in
set_option maxHeartbeats 8000000 in
theorem hdToleranceS (l : List Tolerance) (f : Nat) (v : Value) (k : Int) (w : World) (h : Lies w f v (.sl 4 l.length ((mks Tolerance.mark Tolerance.cost l k).flatMap Tolerance.row))) (h0 : 0 ≤ k) (hkk : k + wsum Tolerance.cost l ≤ 4611686018427387904) :
    Calls Tryd.prog 36 #[v, .int .i64 k] w fun e w' => e = .returned (.int .i64 (k + wsum Tolerance.cost l)) ∧ Below w.heap.size w w' := by
  have hml := mks_length Tolerance.mark Tolerance.cost l k
  rw [← hml] at h
  obtain ⟨A, c, rfl, hc1, hc2, f', rfl, hk⟩ := els_of Tolerance.row_length h
  rw [hml] at hc1 ⊢
  unfold maxLen at hc2
  have Hk := Lib.hid hk
  have Hml := Lib.hid hml
  clear h hk hml
  go_enter Tryd.func36, Tryd.ntmps36
  go_wp2_with fail
  go_loopw [1, 5] (fun a i wr => ∃ (j : Nat), j ≤ l.length ∧ i = .int .i64 j ∧ a = .int .i64 (k + wsum Tolerance.cost (l.take j)) ∧ Below w.heap.size w wr) (fun _ i _ => l.length - (intOf i).toNat)
  case atStart => exact ⟨0, Nat.zero_le _, rfl, by simp [wsum], Below.refl _ _⟩
  case round =>
    obtain ⟨j, hj, rfl, rfl, hbel⟩ := hrel
    by_cases hlt : j < l.length
    · obtain ⟨g, o, rfl, hg, hcc⟩ := (Hk.out.below hbel) (by rw [Hml.out]; omega)
      obtain ⟨us, hus, hc, hls⟩ := hcc j _ (mks_get Tolerance.mark Tolerance.cost hlt k)
      obtain ⟨rfl, hwf⟩ := Tolerance.opened hls
      have hnext := wsum_take Tolerance.cost hlt
      have hall := wsum_all Tolerance.cost l (j + 1)
      have Hnext := Lib.hid hnext
      rw [show Tolerance.cost l[j] = 4 from rfl] at Hnext hnext
      generalize wsum Tolerance.cost (l.take j) = C0 at *
      have hkk2 : k + C0 + 4 ≤ 4611686018427387904 := by omega
      obtain ⟨K, hK⟩ : ∃ K, k + C0 = K := ⟨_, rfl⟩
      rw [hK] at hc hkk2 ⊢
      have q0 : wr.cell? ⟨g, o + j * 4, none⟩ = some (.string (lawMark.mt K)) := hc 0 _ rfl
      have q1 : wr.cell? ⟨g, o + j * 4 + 1, none⟩ = some (.bool (decide ((K + 1) % 3 = 0))) := hc 1 _ rfl
      rw [show decide ((K + 1) % 3 = 0) = ((K + 1) % 3 == 0) from rfl] at q1
      have ef1 : (((K + 1) % 3 == 0) == ((K + 1) % 3 == 0)) = true := by simp
      have q2 : wr.cell? ⟨g, o + j * 4 + 2, none⟩ = some (.string (lawMark.mt (K + 2))) := hc 2 _ rfl
      have q3 : wr.cell? ⟨g, o + j * 4 + 3, none⟩ = some (.int .i64 (K + 3)) := hc 3 _ rfl
      have e2 : (K + 1) + 1 = K + 2 := by omega
      have e3 : (K + 2) + 1 = K + 3 := by omega
      have e4 : (K + 3) + 1 = K + 4 := by omega
      have HK := Lib.hid hK
      have hK0 : 0 ≤ K := by omega
      have HMT := Lib.hid (fun m w hm => lawMark.mark_text m w hm)
      have Hbel := Lib.hid hbel
      clear hcc hus hc hls hwf hnext hall hbel hK
      go_wp2_with fail
      go_region_law (go_simp; go_at_call 53; refine (HMT.out K _ (by omega)).mono ?_; rintro e y1 ⟨rfl, hb1⟩; have r1_0 : y1.cell? ⟨g, o + j * 4, none⟩ = some (.string (lawMark.mt K)) := (hb1.cell (p := ⟨g, o + j * 4, none⟩) hg).trans q0; have r1_1 : y1.cell? ⟨g, o + j * 4 + 1, none⟩ = some (.bool ((K + 1) % 3 == 0)) := (hb1.cell (p := ⟨g, o + j * 4 + 1, none⟩) hg).trans q1; have r1_2 : y1.cell? ⟨g, o + j * 4 + 2, none⟩ = some (.string (lawMark.mt (K + 2))) := (hb1.cell (p := ⟨g, o + j * 4 + 2, none⟩) hg).trans q2; have r1_3 : y1.cell? ⟨g, o + j * 4 + 3, none⟩ = some (.int .i64 (K + 3)) := (hb1.cell (p := ⟨g, o + j * 4 + 3, none⟩) hg).trans q3)
      all_goals
        have hg1 : g < y1.heap.size := Nat.lt_of_lt_of_le hg hb1.size
        have Hbel1 := Lib.hid (below_link Hbel.out ((Below.refl _ _).drew.trans (hb1.mono (Nat.le_refl _))) (Below.size Hbel.out))
        clear hb1 q0 q1 q2 q3
        go_wp2_with fail
        go_region_law (go_simp; go_at_call 53; refine (HMT.out (K + 2) _ (by omega)).mono ?_; rintro e y2 ⟨rfl, hb2⟩; have r2_2 : y2.cell? ⟨g, o + j * 4 + 2, none⟩ = some (.string (lawMark.mt (K + 2))) := (hb2.cell (p := ⟨g, o + j * 4 + 2, none⟩) hg1).trans r1_2; have r2_3 : y2.cell? ⟨g, o + j * 4 + 3, none⟩ = some (.int .i64 (K + 3)) := (hb2.cell (p := ⟨g, o + j * 4 + 3, none⟩) hg1).trans r1_3)
        all_goals
          have hg2 : g < y2.heap.size := Nat.lt_of_lt_of_le hg1 hb2.size
          have Hbel2 := Lib.hid (below_link Hbel1.out ((Below.refl _ _).drew.trans (hb2.mono (Nat.le_refl _))) (Below.size Hbel1.out))
          clear hb2 r1_0 r1_1 r1_2 r1_3
          go_wp2_with fail
          go_roundw
          case rel => exact ⟨j + 1, by omega, by go_num, by rw [Hnext.out]; have := HK.out; congr 1; omega, Hbel2.out⟩
          case measure => simp [intOf]; omega
    · obtain rfl : j = l.length := by omega
      rw [List.take_of_length_le (Nat.le_refl _)]
      have Hbel := Lib.hid hbel
      clear hbel
      go_wp2_with fail
      go_ret
      exact ⟨rfl, Hbel.out⟩
end Go.Proofs.YtdgedclpaplgoaaDoor.ty
namespace Go.Proofs.YtdgedclpaplgoaaDoor.taint
open Go.ChangeShapes Go.WideShapes Go.ChangeAt Go.RowKit ty lab need
set_option linter.unusedVariables false

set_option maxRecDepth 100000 in
set_option maxHeartbeats 8000000 in
theorem impl_tol (x : Tolerance) (w : World) (hw : x.Wf) :
    Calls Tryd.prog 104 #[.agg #[.string x.key, .bool x.equal, .string x.value, .int .i64 x.effect]] w fun e w' => e = .returned (.bool (yes (TolP x))) ∧ Below w.heap.size w w' := by
  rw [show yes (TolP x) = yes ((0 ≤ x.effect ∧ x.effect ≤ 2) ∧ TolK x.key x.equal x.value) from by congr 1; exact propext (tol_iff x)]
  have HL := Lib.hid (fun w' => impl_lab x.key x.value x.effect w' hw.1 hw.2.1)
  have HE := Lib.hid (fun w' => impl_eff x.key x.value x.effect w')
  have HF := Lib.hid (fun w' => impl_fo x w')
  have Hb0 := Lib.hid (fun o : Obj => (Below.refl w.heap.size w).alloc (Nat.le_refl _) o)
  clear hw
  obtain ⟨k, q, a, n⟩ := x
  simp only at *
  by_cases hn : n = 0 ∨ (1 ≤ n ∧ n ≤ 2)
  case neg =>
    have Hf := Lib.hid (yes_f (p := (0 ≤ n ∧ n ≤ 2) ∧ TolK k q a) (fun h => hn (by omega)))
    rw [yes_f (fun h => hn (.inr h))] at HE
    have e0 : (n != 0) = true := bne_iff_ne.2 (fun h => hn (.inl h))
    clear hn HL
    go_enter Tryd.func104, Tryd.ntmps104
    go_wp2_with fail
    refine (HF.out _).mono ?_
    rintro e w1 ⟨rfl, hg⟩
    have Hb1 := Lib.hid (below_link (Hb0.out _) hg.below (Hb0.out _).size)
    clear hg
    go_wp2_with fail
    refine (HE.out _).mono ?_
    rintro e w2 ⟨rfl, hb⟩
    have Hb2 := Lib.hid (below_link (Hb1.out.alloc Hb1.out.size _) hb (Hb1.out.alloc Hb1.out.size _).size)
    clear hb
    go_wp2_with fail
    go_ret
    exact ⟨by rw [Hf.out]; rfl, Hb2.out⟩
  have HT : Hid (yes ((0 ≤ n ∧ n ≤ 2) ∧ TolK k q a) = yes (TolK k q a)) := by
    unfold Hid
    congr 1
    exact propext ⟨fun h => h.2, fun h => ⟨by omega, h⟩⟩
  rw [HT.out]
  clear HT
  by_cases h0 : n = 0
  · subst h0
    clear hn HE
    cases q with
    | true =>
      have Hr : Hid (yes (TolK k true a) = yes (KeyP k ∧ ValP a)) := by
        unfold Hid
        congr 1
        refine propext ⟨fun h => ?_, fun h => .inl ⟨rfl, h⟩⟩
        rcases h with ⟨_, h⟩ | ⟨h, _⟩
        · exact h
        · cases h
      rw [Hr.out]
      clear Hr
      generalize yes (KeyP k ∧ ValP a) = R at HL ⊢
      go_enter Tryd.func104, Tryd.ntmps104
      go_wp2_with fail
      refine (HF.out _).mono ?_
      rintro e w1 ⟨rfl, hg⟩
      have Hb1 := Lib.hid (below_link (Hb0.out _) hg.below (Hb0.out _).size)
      clear hg
      have Hb2 := Lib.hid (Hb1.out.alloc Hb1.out.size)
      go_wp2_with fail
      refine (HL.out _).mono ?_
      rintro e w3 ⟨rfl, hb⟩
      have Hb3 := Lib.hid (below_link (Hb2.out _) hb (Hb2.out _).size)
      clear hb
      go_wp2_with fail
      go_ret
      exact ⟨rfl, Hb3.out⟩
    | false =>
      by_cases ha : a.size = 0
      case neg =>
        have Hf := Lib.hid (yes_f (p := TolK k false a) (fun h => by
          rcases h with ⟨h, _⟩ | ⟨_, h, _⟩
          · cases h
          · exact ha h))
        have e1 := empty_no ha
        clear ha HL
        go_enter Tryd.func104, Tryd.ntmps104
        go_wp2_with fail
        refine (HF.out _).mono ?_
        rintro e w1 ⟨rfl, hg⟩
        have Hb1 := Lib.hid (below_link (Hb0.out _) hg.below (Hb0.out _).size)
        clear hg
        have Hb2 := Lib.hid (Hb1.out.alloc Hb1.out.size)
        go_wp2_with fail
        go_ret
        exact ⟨by rw [Hf.out]; rfl, Hb2.out _⟩
      have e1 := empty_yes ha
      by_cases hk : k.size = 0
      · have Hf := Lib.hid (yes_t (p := TolK k false a) (.inr ⟨rfl, ha, .inl hk⟩))
        have e2 := empty_yes hk
        clear ha hk HL
        go_enter Tryd.func104, Tryd.ntmps104
        go_wp2_with fail
        refine (HF.out _).mono ?_
        rintro e w1 ⟨rfl, hg⟩
        have Hb1 := Lib.hid (below_link (Hb0.out _) hg.below (Hb0.out _).size)
        clear hg
        have Hb2 := Lib.hid (Hb1.out.alloc Hb1.out.size)
        go_wp2_with fail
        go_ret
        exact ⟨by rw [Hf.out]; rfl, Hb2.out _⟩
      have e2 := empty_no hk
      have Hf : Hid (yes (TolK k false a) = yes (KeyP k ∧ ValP a)) := by
        unfold Hid
        congr 1
        refine propext ⟨fun h => ?_, fun h => .inr ⟨rfl, ha, .inr h.1⟩⟩
        rcases h with ⟨h, _⟩ | ⟨_, _, h⟩
        · cases h
        · rcases h with h | h
          · exact absurd h hk
          · exact ⟨h, .inl ha⟩
      rw [Hf.out]
      clear Hf ha hk
      generalize yes (KeyP k ∧ ValP a) = R at HL ⊢
      go_enter Tryd.func104, Tryd.ntmps104
      go_wp2_with fail
      refine (HF.out _).mono ?_
      rintro e w1 ⟨rfl, hg⟩
      have Hb1 := Lib.hid (below_link (Hb0.out _) hg.below (Hb0.out _).size)
      clear hg
      have Hb2 := Lib.hid (Hb1.out.alloc Hb1.out.size)
      go_wp2_with fail
      refine (HL.out _).mono ?_
      rintro e w3 ⟨rfl, hb⟩
      have Hb3 := Lib.hid (below_link (Hb2.out _) hb (Hb2.out _).size)
      clear hb
      go_wp2_with fail
      go_ret
      exact ⟨rfl, Hb3.out⟩
  have e0 : (n != 0) = true := bne_iff_ne.2 h0
  rw [yes_t (hn.resolve_left h0)] at HE
  clear hn h0
  cases q with
  | true =>
    have Hr : Hid (yes (TolK k true a) = yes (KeyP k ∧ ValP a)) := by
      unfold Hid
      congr 1
      refine propext ⟨fun h => ?_, fun h => .inl ⟨rfl, h⟩⟩
      rcases h with ⟨_, h⟩ | ⟨h, _⟩
      · exact h
      · cases h
    rw [Hr.out]
    clear Hr
    generalize yes (KeyP k ∧ ValP a) = R at HL ⊢
    go_enter Tryd.func104, Tryd.ntmps104
    go_wp2_with fail
    refine (HF.out _).mono ?_
    rintro e w1 ⟨rfl, hg⟩
    have Hb1 := Lib.hid (below_link (Hb0.out _) hg.below (Hb0.out _).size)
    clear hg
    go_wp2_with fail
    refine (HE.out _).mono ?_
    rintro e w2 ⟨rfl, hb⟩
    have hr := (RowE.new 132 w1 [.string k, .string a, .int .i64 n, .bool true]).below hb
    have c0 := hr.cell 0 _ rfl
    have c1 := hr.cell 1 _ rfl
    have c2 := hr.cell 2 _ rfl
    have c3 := hr.cell 3 _ rfl
    have Hb2 := Lib.hid (below_link (Hb1.out.alloc Hb1.out.size _) hb (Hb1.out.alloc Hb1.out.size _).size)
    clear hb hr
    go_wp2_with fail
    refine (HL.out _).mono ?_
    rintro e w3 ⟨rfl, hb⟩
    have Hb3 := Lib.hid (below_link Hb2.out hb Hb2.out.size)
    clear hb
    go_wp2_with fail
    go_ret
    exact ⟨rfl, Hb3.out⟩
  | false =>
    by_cases ha : a.size = 0
    case neg =>
      have Hf := Lib.hid (yes_f (p := TolK k false a) (fun h => by
        rcases h with ⟨h, _⟩ | ⟨_, h, _⟩
        · cases h
        · exact ha h))
      have e1 := empty_no ha
      clear ha HL
      go_enter Tryd.func104, Tryd.ntmps104
      go_wp2_with fail
      refine (HF.out _).mono ?_
      rintro e w1 ⟨rfl, hg⟩
      have Hb1 := Lib.hid (below_link (Hb0.out _) hg.below (Hb0.out _).size)
      clear hg
      go_wp2_with fail
      refine (HE.out _).mono ?_
      rintro e w2 ⟨rfl, hb⟩
      have hr := (RowE.new 132 w1 [.string k, .string a, .int .i64 n, .bool false]).below hb
      have c0 := hr.cell 0 _ rfl
      have c1 := hr.cell 1 _ rfl
      have c2 := hr.cell 2 _ rfl
      have c3 := hr.cell 3 _ rfl
      have Hb2 := Lib.hid (below_link (Hb1.out.alloc Hb1.out.size _) hb (Hb1.out.alloc Hb1.out.size _).size)
      clear hb hr
      go_wp2_with fail
      go_ret
      exact ⟨by rw [Hf.out]; rfl, Hb2.out⟩
    have e1 := empty_yes ha
    by_cases hk : k.size = 0
    · have Hf := Lib.hid (yes_t (p := TolK k false a) (.inr ⟨rfl, ha, .inl hk⟩))
      have e2 := empty_yes hk
      clear ha hk HL
      go_enter Tryd.func104, Tryd.ntmps104
      go_wp2_with fail
      refine (HF.out _).mono ?_
      rintro e w1 ⟨rfl, hg⟩
      have Hb1 := Lib.hid (below_link (Hb0.out _) hg.below (Hb0.out _).size)
      clear hg
      go_wp2_with fail
      refine (HE.out _).mono ?_
      rintro e w2 ⟨rfl, hb⟩
      have hr := (RowE.new 132 w1 [.string k, .string a, .int .i64 n, .bool false]).below hb
      have c0 := hr.cell 0 _ rfl
      have c1 := hr.cell 1 _ rfl
      have c2 := hr.cell 2 _ rfl
      have c3 := hr.cell 3 _ rfl
      have Hb2 := Lib.hid (below_link (Hb1.out.alloc Hb1.out.size _) hb (Hb1.out.alloc Hb1.out.size _).size)
      clear hb hr
      go_wp2_with fail
      go_ret
      exact ⟨by rw [Hf.out]; rfl, Hb2.out⟩
    have e2 := empty_no hk
    have Hf : Hid (yes (TolK k false a) = yes (KeyP k ∧ ValP a)) := by
      unfold Hid
      congr 1
      refine propext ⟨fun h => ?_, fun h => .inr ⟨rfl, ha, .inr h.1⟩⟩
      rcases h with ⟨h, _⟩ | ⟨_, _, h⟩
      · cases h
      · rcases h with h | h
        · exact absurd h hk
        · exact ⟨h, .inl ha⟩
    rw [Hf.out]
    clear Hf ha hk
    generalize yes (KeyP k ∧ ValP a) = R at HL ⊢
    go_enter Tryd.func104, Tryd.ntmps104
    go_wp2_with fail
    refine (HF.out _).mono ?_
    rintro e w1 ⟨rfl, hg⟩
    have Hb1 := Lib.hid (below_link (Hb0.out _) hg.below (Hb0.out _).size)
    clear hg
    go_wp2_with fail
    refine (HE.out _).mono ?_
    rintro e w2 ⟨rfl, hb⟩
    have hr := (RowE.new 132 w1 [.string k, .string a, .int .i64 n, .bool false]).below hb
    have c0 := hr.cell 0 _ rfl
    have c1 := hr.cell 1 _ rfl
    have c2 := hr.cell 2 _ rfl
    have c3 := hr.cell 3 _ rfl
    have Hb2 := Lib.hid (below_link (Hb1.out.alloc Hb1.out.size _) hb (Hb1.out.alloc Hb1.out.size _).size)
    clear hb hr
    go_wp2_with fail
    refine (HL.out _).mono ?_
    rintro e w3 ⟨rfl, hb⟩
    have Hb3 := Lib.hid (below_link Hb2.out hb Hb2.out.size)
    clear hb
    go_wp2_with fail
    go_ret
    exact ⟨rfl, Hb3.out⟩
end Go.Proofs.YtdgedclpaplgoaaDoor.taint
namespace Go.Proofs.YtdgedclpaplgoaaDoor
open Go Go.RowKit
set_option linter.unusedVariables false

theorem RowE.gr {e : TypeId} {w a : World} {g : Nat} {us : List Value} (h : RowE e w g us) (k : Gr w a) : RowE e a g us := h.below k.below
theorem Gr.setRow {w a : World} {g : Nat} (h : Gr w a) (hg : w.heap.size ≤ g) (c : Array Value) : Gr w (a.setRow g c) := by
  obtain ⟨q, os, rfl⟩ := h
  refine ⟨q, os.modify (g - w.heap.size) (fun | .cells _ t f => .cells c t f | o => o), ?_⟩
  have e : (w.heap ++ os).modify g (fun | .cells _ t f => .cells c t f | o => o) = w.heap ++ os.modify (g - w.heap.size) (fun | .cells _ t f => .cells c t f | o => o) := by
    apply Array.ext_getElem?
    intro i
    rw [Array.getElem?_modify, Array.getElem?_append, Array.getElem?_append, Array.getElem?_modify]
    by_cases hi : i < w.heap.size
    · rw [if_pos hi, if_pos hi, if_neg (by omega)]
    · rw [if_neg hi, if_neg hi]
      by_cases hgi : g = i
      · rw [if_pos hgi, if_pos (by omega)]
      · rw [if_neg hgi, if_neg (by omega)]
  show ({ Sort.grow (w.drewN q) os with heap := _ } : World) = _
  unfold Sort.grow
  simp only [World.drewN]
  congr 1
theorem row_otherE {e : TypeId} {w : World} {g x : Nat} {us : List Value} {vs : Array Value} (h : x ≠ g) (hr : RowE e w x us) : RowE e (w.setRow g vs) x us := by
  unfold RowE at *
  rw [← hr]
  simp only [World.setRow, Array.getElem?_modify]
  rw [if_neg (fun e => h e.symm)]
theorem RowE.set {e : TypeId} {w : World} {g : Nat} {us vs : List Value} (h : RowE e w g us) : RowE e (w.setRow g vs.toArray) g vs := setRow_at h
theorem step_store_rowH {P : Program} {ops : Array Oper} {o : Oper} {a : Act} {w : World} {K : Act → World → Prop} {Q : Exit → Act → World → Prop} {E : Prop} (hg : o.guard = none) (ty : TypeId) (x y : Operand) (ho : o.op = .store ty x y)
    (g : Nat) (cells : Array Value) (hx : a.eval x = .pointer (some ⟨g, 0, none⟩)) (hy : a.eval y = .agg cells) (t : TypeId) (old : List Value) (hgd : RowE t w g old) (hi : (P.info? ty).map (·.size) = some cells.size)
    (hold : old.toArray.size = cells.size) (h1 : cells.all (·.oneCell') = true) (h : K (a.put o.dst undef) (w.setRow g cells)) : if Region.wanted o (yielded ops a.tmps) = true then Oper.wp P o a w K Q else E := by
  have hw : Region.wanted o (yielded ops a.tmps) = true := by simp [Region.wanted, hg]
  rw [if_pos hw]
  exact wp_store_row ty x y ho g cells hx hy t old.toArray hgd hi hold h1 h
end Go.Proofs.YtdgedclpaplgoaaDoor
namespace Go.Proofs.YtdgedclpaplgoaaDoor.taint
open Go.ChangeShapes Go.WideShapes Go.ChangeAt Go.RowKit ty
set_option linter.unusedVariables false

set_option maxRecDepth 100000 in
theorem impl_cofTolerance (l : List Tolerance) (f : Nat) (v : Value) (w : World) (h : Lies w f v (.sl 4 l.length (l.flatMap Tolerance.row))) (hn : l.length ≤ 1048576) :
    Calls Tryd.prog 99 #[v] w fun e w' => ∃ g c, e = .returned (.slice (some ⟨g, 0, none⟩) l.length c) ∧ w'.ownsRow w.heap.size 92 4 (.slice (some ⟨g, 0, none⟩) l.length c) l.length (l.flatMap Tolerance.cells) ∧ Below w.heap.size w w' := by
  obtain ⟨A, c, rfl, hc1, hc2, f', rfl, hk⟩ := els_of Tolerance.row_length h
  unfold maxLen at hc2
  have Hr := Lib.hid (rdk_Tolerance hk).1
  clear h hk
  obtain ⟨i0, hi, hz0, hz1, hz2⟩ := info_parts TrydinfITolerance
  have Hlit : Hid ((w.alloc (.cells #[] 92)).ownsRow w.heap.size 92 4 (.slice (some ⟨w.heap.size, 0, none⟩) 0 0) 0 []) :=
    World.ownsRow_lit w #[] 0 (Nat.le_refl _) (by simp [maxLen]) rfl
  have Hb := Lib.hid (fun o => (Below.refl w.heap.size w).alloc (Nat.le_refl _) o)
  have hn2 := Lib.hid hn
  clear hn
  go_enter Tryd.func99, Tryd.ntmps99
  go_wp2_with (first | (at_builtin; refine wpList_append_rdk rfl (.tmp 3) (.tmp 4) 53 rfl w.heap.size 92 i0 _ 4 48 Tryd.underlying53 hi hz0 hz1 hz2 rfl (by decide) _ 0 [] rfl Hlit.out A l.length c (l.flatMap Tolerance.cells) rfl (Hr.out.below (Hb.out _)) (flt.ones_flat Tolerance.cells_one l) (by have := hn2.out; unfold maxLen; omega) (by have := hn2.out; omega) (by simp) ?_; intro v1 w1 o1 o2 o3) | fail)
  try rw [Nat.zero_add, List.nil_append] at o1
  have hbel : Below w.heap.size w w1 := (Hb.out _).grown o2 (by simp) (fun q hq => (Hlit.out.lt q hq).1)
  obtain ⟨x, hx⟩ : ∃ x, v1.ownBlock = some x := by
    rcases o3 with e | e
    · exact ⟨_, e.trans rfl⟩
    · exact ⟨_, e⟩
  obtain ⟨c1, rfl, _⟩ := own_some o1 hx
  have O := Lib.hid (show ∃ g c, Ending.returned (.slice (some ⟨x, 0, none⟩) l.length c1) = .returned (.slice (some ⟨g, 0, none⟩) l.length c) ∧ w1.ownsRow w.heap.size 92 4 (.slice (some ⟨g, 0, none⟩) l.length c) l.length (l.flatMap Tolerance.cells) ∧ Below w.heap.size w w1 from ⟨x, c1, rfl, o1, hbel⟩)
  clear o1 o2 o3 hx hbel Hlit Hb Hr
  go_wp2_with fail
  go_ret
  exact O.out
end Go.Proofs.YtdgedclpaplgoaaDoor.taint
namespace Go.Proofs.YtdgedclpaplgoaaDoor.ty
open Go.ChangeShapes Go.WideShapes Go.ChangeAt Go.RowKit
set_option linter.unusedVariables false

instance : Inhabited Tolerance := ⟨⟨⟨#[]⟩, false, ⟨#[]⟩, 0⟩⟩
theorem csTolerance : Tryd.prog.cellsOf 90 = 4 := by kernel_rfl
theorem csTolerance_string : Tryd.prog.cellsOf 9 = 1 := by kernel_rfl
theorem csTolerance_bool : Tryd.prog.cellsOf 4 = 1 := by kernel_rfl
theorem csTolerance_int : Tryd.prog.cellsOf 3 = 1 := by kernel_rfl
section
variable {H : Type} {enc : TypeId × Value → H} {w : World} {base : Nat} {sp : Nat → Bool} {held : Bool}
set_option maxRecDepth 100000 in
theorem trodTolerance (fuel : Nat) (cs : List Value) (x : DataW H × List MemPlace) (h : DataW.trod enc Tryd.prog w base sp held fuel 90 cs = some x) : ∃ t : Tolerance, LiesS w fuel cs t.row := by
  obtain ⟨xs, n, rfl, _, hl, hxl, hf⟩ := DataW.trod_struct Tryd.underlying90 h
  rw [csTolerance] at hl
  have hxlk : xs.length = 4 := hxl
  obtain ⟨u0, u1, u2, u3, rfl⟩ := of_Tolerance hl
  obtain ⟨y0, y1, y2, y3, rfl⟩ := of_Tolerance hxlk
  have f0 := hf 0 _ rfl
  have f1 := hf 1 _ rfl
  have f2 := hf 2 _ rfl
  have f3 := hf 3 _ rfl
  simp only [csTolerance_string, csTolerance_bool, csTolerance_int, List.drop_zero, List.drop_succ_cons, List.take_succ_cons, List.take_zero, List.getElem?_cons_zero, List.getElem?_cons_succ] at f0 f1 f2 f3
  obtain ⟨z0, e0, _, w0⟩ := DataW.trod_string Tryd.underlying9 f0
  obtain ⟨z1, e1, _⟩ := DataW.trod_bool Tryd.underlying4 f1
  obtain ⟨z2, e2, _, w2⟩ := DataW.trod_string Tryd.underlying9 f2
  obtain ⟨z3, e3, _, w3⟩ := DataW.trod_int Tryd.underlying3 f3
  injection e0 with e0
  injection e1 with e1
  injection e2 with e2
  injection e3 with e3
  subst e0 e1 e2 e3
  refine ⟨⟨z0, z1, z2, z3⟩, ?_⟩
  cases n with
  | zero => simp [DataW.trod] at f0
  | succ n => exact (Tolerance.lies (f := n) (x := ⟨z0, z1, z2, z3⟩) ⟨w0, w2, w3⟩).deeper (by omega)
set_option maxRecDepth 100000 in
theorem open_ToleranceS {r : Reach} {b0 : Nat} {v : Value} {d : DataW H} {ps : List MemPlace}
    (hval : Value.okWide Tryd.prog w r b0 51 v) (hd : DataW.Trod enc Tryd.prog w base sp held 51 v d ps) : ∃ (l : List Tolerance) (f : Nat), Lies w f v (.sl 4 l.length (l.flatMap Tolerance.row)) := by
  obtain ⟨A, n, c, rfl⟩ := okWide_slice Tryd.underlying51 hval
  obtain ⟨fuel, hf⟩ := hd
  obtain ⟨v', l, h1, h2⟩ := lies_slice (α := Tolerance) Tolerance.row Tryd.underlying51 csTolerance (by decide) Tolerance.row_length (fun n cs' y _ hy => trodTolerance n cs' y hy) hf
  have e : v' = .slice A n c := by simpa [Value.cells] using h1.symm
  subst e
  exact ⟨l, fuel, h2⟩
end
end Go.Proofs.YtdgedclpaplgoaaDoor.ty
