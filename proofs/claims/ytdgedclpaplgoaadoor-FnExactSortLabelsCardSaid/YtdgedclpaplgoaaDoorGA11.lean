/- Merged: SzLabel SzLabelS ToLabelS EqLabel EqLabelS MkLabelS HdLabelS OpLabelS. -/
import Derived.Test.YtdgedclpaplgoaaDoorGA5
import Derived.Test.YtdgedclpaplgoaaDoorRows
import Derived.ProofKit
import Derived.OpenShut
import Derived.Test.YtdgedclpaplgoaaDoorGA7
import Derived.OwnWalk
import Derived.Deep.WholeRow
import Derived.Test.YtdgedclpaplgoaaDoorMarkTxt
import Derived.Test.YtdgedclpaplgoaaDoorOpenEl
namespace Go.Proofs.YtdgedclpaplgoaaDoor.ty
open Go.ChangeShapes Go.WideShapes Go.ChangeAt Go.RowKit
set_option linter.unusedVariables false

theorem szLabel (x : Label) (left : Int) (w : World) (hx : x.Wf) (hl : LeftN left) :
    Calls Tryd.prog 50 #[.agg #[.string x.key, .string x.value], .int .i64 left] w fun e w' => e = .returned (.int .i64 (cutN left x.wt)) ∧ Below w.heap.size w w' := by
  obtain ⟨a0, a1⟩ := x
  obtain ⟨w0, w1⟩ := hx
  simp only at *
  unfold maxLen at w0 w1
  unfold LeftN at hl
  rw [show Label.wt ⟨a0, a1⟩ = a0.size + a1.size from rfl]
  have Hb := Lib.hid ((Below.refl w.heap.size w).alloc (Nat.le_refl _) (.cells #[.string a0, .string a1] 75))
  by_cases h0 : left < (a0.size : Int)
  · have He := Lib.hid (cutN_no (show left < ((a0.size + a1.size : Nat) : Int) by omega))
    go_enter Tryd.func50, Tryd.ntmps50
    go_wp2_with fail
    go_ret
    exact ⟨by rw [He.out]; rfl, Hb.out⟩
  by_cases h1 : left - a0.size < (a1.size : Int)
  · have He := Lib.hid (cutN_no (show left < ((a0.size + a1.size : Nat) : Int) by omega))
    go_enter Tryd.func50, Tryd.ntmps50
    go_wp2_with fail
    go_ret
    exact ⟨by rw [He.out]; rfl, Hb.out⟩
  have He := Lib.hid (cutN_yes (show ¬ left < ((a0.size + a1.size : Nat) : Int) by omega))
  have He2 := Lib.hid (show left - ((a0.size + a1.size : Nat) : Int) = left - a0.size - a1.size by omega)
  go_enter Tryd.func50, Tryd.ntmps50
  go_wp2_with fail
  go_ret
  exact ⟨by rw [He.out, He2.out]; rfl, Hb.out⟩
end Go.Proofs.YtdgedclpaplgoaaDoor.ty
namespace Go.Proofs.YtdgedclpaplgoaaDoor.ty
open Go.ChangeShapes Go.WideShapes Go.ChangeAt Go.RowKit
set_option linter.unusedVariables false

theorem szLabelS (l : List Label) (f : Nat) (v : Value) (left : Int) (w : World) (h : Lies w f v (.sl 2 l.length (l.flatMap Label.row))) (hl : LeftN left) :
    Calls Tryd.prog 18 #[v, .int .i64 left] w fun e w' => e = .returned (.int .i64 (cutN left (l.length + wsum Label.wt l))) ∧ Below w.heap.size w w' := by
  obtain ⟨A, c, rfl, hc1, hc2, f', rfl, hk⟩ := els_of Label.row_length h
  unfold maxLen at hc2
  unfold LeftN at hl
  have Hk := Lib.hid hk
  clear h hk
  by_cases h0 : left < l.length
  · have He := Lib.hid (cutN_no (show left < ((l.length + wsum Label.wt l : Nat) : Int) by omega))
    go_enter Tryd.func18, Tryd.ntmps18
    go_wp2_with fail
    go_ret
    exact ⟨by rw [He.out]; rfl, Below.refl _ _⟩
  go_enter Tryd.func18, Tryd.ntmps18
  go_wp2_with fail
  go_loopw [1, 5] (fun a i wr => ∃ (j : Nat) (z : Int), j ≤ l.length ∧ i = .int .i64 j ∧ a = .int .i64 z ∧ 0 ≤ z ∧ z ≤ 1048576 ∧ Hid (z = left - l.length - wsum Label.wt (l.take j)) ∧ Below w.heap.size w wr) (fun _ i _ => l.length - (intOf i).toNat)
  case atStart => exact ⟨0, left - l.length, Nat.zero_le _, rfl, rfl, by omega, by omega, by unfold Hid; simp [wsum], Below.refl _ _⟩
  case round =>
    obtain ⟨j, z, hj, rfl, rfl, hz0, hz1, hin, hbel⟩ := hrel
    by_cases hlt : j < l.length
    · obtain ⟨g, o, rfl, hg, us, hus, hc, hls⟩ := (Hk.out.below hbel).get hlt
      obtain ⟨rfl, hwf⟩ := Label.opened hls
      have q0 : wr.cell? ⟨g, o + j * 2, none⟩ = some (.string l[j].key) := hc 0 _ rfl
      have q1 : wr.cell? ⟨g, o + j * 2 + 1, none⟩ = some (.string l[j].value) := hc 1 _ rfl
      have HC := Lib.hid (szLabel l[j] z wr hwf ⟨hz0, hz1⟩)
      have hnext := wsum_take Label.wt hlt
      have hall := wsum_all Label.wt l (j + 1)
      have Hbel := Lib.hid hbel
      clear hls hbel hg hus hc hwf
      by_cases h1 : z < (l[j].wt : Int)
      · have He := Lib.hid (cutN_no (show left < ((l.length + wsum Label.wt l : Nat) : Int) by have := hin.out; omega))
        rw [cutN_no h1] at HC
        clear hnext hall hin h1
        generalize l[j] = x at q0 q1 HC
        go_wp2_with fail
        refine HC.out.mono ?_
        rintro e w1 ⟨rfl, hb1⟩
        have Hbel1 := Lib.hid (Hbel.out.trans (hb1.mono Hbel.out.size))
        clear hb1 q0 q1
        go_wp2_with fail
        go_ret
        exact ⟨by rw [He.out]; rfl, Hbel1.out⟩
      · have Hin := Lib.hid (show z - l[j].wt = left - l.length - wsum Label.wt (l.take (j + 1)) by have := hin.out; omega)
        rw [cutN_yes h1] at HC
        clear hnext hall hin
        generalize l[j] = x at q0 q1 HC h1 Hin
        generalize x.wt = y at HC h1 Hin
        go_wp2_with fail
        refine HC.out.mono ?_
        rintro e w1 ⟨rfl, hb1⟩
        have Hbel1 := Lib.hid (Hbel.out.trans (hb1.mono Hbel.out.size))
        clear hb1 q0 q1
        go_wp2_with fail
        go_roundw
        case rel => exact ⟨j + 1, z - y, by omega, by go_num, rfl, by omega, by omega, Hin.out, Hbel1.out⟩
        case measure => simp [intOf]; omega
    · obtain rfl : j = l.length := by omega
      rw [List.take_of_length_le (Nat.le_refl _)] at hin
      have He := Lib.hid (cutN_yes (show ¬ left < ((l.length + wsum Label.wt l : Nat) : Int) by have := hin.out; omega))
      have Hin := Lib.hid (show left - ((l.length + wsum Label.wt l : Nat) : Int) = z by have := hin.out; omega)
      have Hbel := Lib.hid hbel
      clear hin hbel
      go_wp2_with fail
      go_ret
      exact ⟨by rw [He.out, Hin.out]; rfl, Hbel.out⟩
end Go.Proofs.YtdgedclpaplgoaaDoor.ty
namespace Go.Proofs.YtdgedclpaplgoaaDoor.ty
open Go.ChangeShapes Go.WideShapes Go.ChangeAt Go.RowKit
set_option linter.unusedVariables false

theorem TrydinfoLabel : (Tryd.prog.info? 35).map (fun i => (i.zero, i.size, i.bytes)) = some (some (.agg #[.string ⟨#[]⟩, .string ⟨#[]⟩]), 2, 32) := by kernel_rfl
set_option maxRecDepth 100000 in
theorem toLabelS (l : List Label) (f : Nat) (v : Value) (w : World) (h : Lies w f v (.sl 2 l.length (l.flatMap Label.row))) (hw : l.length ≤ 1048576) :
    Calls Tryd.prog 19 #[v] w fun e w' => ∃ v', e = .returned v' ∧ OwnRow w' w.heap.size 1 35 2 v' l.length (l.flatMap Label.row) ∧ Below w.heap.size w w' := by
  obtain ⟨A, c, rfl, hc1, hc2, f', rfl, hk⟩ := els_of Label.row_length h
  obtain ⟨i0, hi, hz0, hz1, hz2⟩ := info_parts TrydinfoLabel
  unfold maxLen at hc2
  have Hk := Lib.hid hk
  clear h hk
  go_enter Tryd.func19, Tryd.ntmps19
  go_wp2_with (at_make; refine wpList_make_full _ rfl _ _ 24 rfl w.heap.size 35 i0 _ 2 Tryd.underlying24 hi hz0 hz1 .i64 .i64 (l.length : Int) (l.length : Int) l.length rfl rfl rfl rfl (by rw [hz2]; omega) (by unfold maxLen; omega) (by simp) ?_)
  intro w1 hown1 hg1
  have hb1 : Below w.heap.size w w1 := (Below.refl _ _).grown hg1 (Nat.le_refl _) (fun b hb => by cases hb)
  obtain ⟨xs, hown⟩ : ∃ xs : List Value, w1.ownsRow w.heap.size 35 2 (.slice (some ⟨w.heap.size, 0, none⟩) l.length l.length) l.length xs := ⟨_, hown1⟩
  have Hown := Lib.hid hown
  have Hb1 := Lib.hid hb1
  clear hown1 hown hb1 hg1
  go_wp2_with fail
  go_loopw [4] (fun i wr => ∃ (j : Nat) (xs : List Value) (F : List Nat), j ≤ l.length ∧ i = .int .i64 j ∧ wr.ownsRow w.heap.size 35 2 (.slice (some ⟨w.heap.size, 0, none⟩) l.length l.length) l.length xs ∧
    OwnS wr w.heap.size 1 (xs.take (j * 2)) ((l.take j).flatMap Label.row) F ∧ F.Nodup ∧ (∀ x ∈ F, x ≠ w.heap.size) ∧ Below w.heap.size w wr) (fun i _ => l.length - (intOf i).toNat)
  case atStart => exact ⟨0, xs, [], Nat.zero_le _, rfl, Hown.out, by simpa using OwnS.nil, List.nodup_nil, (fun x hx => by cases hx), Hb1.out⟩
  case round =>
    clear Hown Hb1 xs
    obtain ⟨j, xs, F, hj, rfl, hown, ho, hnd, hne, hbel⟩ := hrel
    by_cases hlt : j < l.length
    · obtain ⟨g, o, rfl, hg, us, hus, hc, hls⟩ := (Hk.out.below hbel).get hlt
      obtain ⟨rfl, hwf⟩ := Label.opened hls
      have q0 : wr.cell? ⟨g, o + j * 2, none⟩ = some (.string l[j].key) := hc 0 _ rfl
      have q1 : wr.cell? ⟨g, o + j * 2 + 1, none⟩ = some (.string l[j].value) := hc 1 _ rfl
      have hr1 : (l.take (j + 1)).flatMap Label.row = (l.take j).flatMap Label.row ++ l[j].row := by
        rw [List.take_succ_eq_append_getElem hlt, List.flatMap_append]; simp
      have Hr1 := Lib.hid hr1
      have HC := Lib.hid (toLabel l[j] wr hwf)
      have Hwf := Lib.hid hwf
      have Hown := Lib.hid hown
      have Ho := Lib.hid ho
      have Hbel := Lib.hid hbel
      have hlb : w.heap.size < wr.heap.size := (hown.lt w.heap.size rfl).2
      have Hlb := Lib.hid hlb
      clear hls hg hwf hr1 hown ho hbel hlb hus hc
      generalize l[j] = x at HC Hr1 Hwf q0 q1
      go_wp2_with fail
      refine HC.out.mono ?_
      rintro e w2 ⟨rfl, hb2⟩
      have hown2 := own_below' Hown.out hb2
      have ho2 := Ho.out.below hb2
      obtain ⟨us, hus⟩ : ∃ us : List Value, us = [.string x.key, .string x.value] := ⟨_, rfl⟩
      have hlen : us.length = 2 := by rw [hus]; rfl
      have hthere := own_there hown2 (j * 2) us.toArray.size (by simp [hlen]; omega)
      have hone : us.toArray.all (·.oneCell') = true := by rw [hus]; simp [Value.oneCell']
      have hsize : (Tryd.prog.info? 35).map (·.size) = some us.toArray.size := by rw [List.size_toArray, hlen]; exact sizeLabel
      have hoG : OwnS w2 w.heap.size 1 us x.row [] := by rw [hus]; exact Label.owned Hwf.out
      have Hfill := Lib.hid (own_fill hown2 hlt hlen ho2 hnd hne hoG List.nodup_nil (fun y hy hyG => by cases hyG) (fun y hy => by cases hy) rfl)
      have Hbel2 := Lib.hid (Hbel.out.trans (hb2.mono Hbel.out.size))
      have Hus := Lib.hid hus
      clear HC hoG hb2 hown2 ho2 Ho hnd hne Hown Hbel q0 q1
      rw [show (Value.agg #[.string x.key, .string x.value]) = .agg us.toArray by rw [hus]]
      clear hus
      go_wp2_with (first | (refine Go.wpList_store_mid rfl 35 _ _ rfl w.heap.size (j * 2) us.toArray rfl rfl hthere hsize hone ?_) | fail)
      have hf := Hfill.out
      rw [← Hr1.out] at hf
      have hbel3 : Below w.heap.size w (w2.setCells w.heap.size (j * 2) us) := Hbel2.out.grown hf.2.2.2.2 Hbel2.out.size (fun b hb => by injection hb with hb; omega)
      have HF := Lib.hid hf
      have Hbel3 := Lib.hid hbel3
      clear hf hbel3 Hfill hthere hone hsize
      go_wp2_with fail
      go_roundw
      case rel => exact ⟨j + 1, _, _, by omega, by go_num, HF.out.1, HF.out.2.1, HF.out.2.2.1, HF.out.2.2.2.1, Hbel3.out⟩
      case measure => simp [intOf]; omega
    · obtain rfl : j = l.length := by omega
      rw [List.take_of_length_le (Nat.le_refl _)] at ho
      have HR := Lib.hid (own_filled hown (by rw [flat_length' Label.row_length]) ho hnd hne)
      have Hbel := Lib.hid hbel
      clear hown ho hbel
      go_wp2_with fail
      go_ret
      exact ⟨_, rfl, HR.out, Hbel.out⟩
end Go.Proofs.YtdgedclpaplgoaaDoor.ty
namespace Go.Proofs.YtdgedclpaplgoaaDoor.ty
open Go.ChangeShapes Go.WideShapes Go.ChangeAt Go.RowKit
set_option linter.unusedVariables false

theorem eqLabel (x : Label) (w : World) :
    Calls Tryd.prog 52 #[.agg #[.string x.key, .string x.value], .agg #[.string x.key, .string x.value]] w fun e w' => e = .returned (.bool true) ∧ Below w.heap.size w w' := by
  obtain ⟨a0, a1⟩ := x
  simp only
  have Hb : Hid (∀ (a b : Obj), Below w.heap.size w ((w.alloc a).alloc b)) := fun a b => ((Below.refl _ _).alloc (Nat.le_refl _) a).alloc (by simp) b
  go_enter Tryd.func52, Tryd.ntmps52
  go_wp2_with fail
  go_ret
  exact ⟨rfl, Hb.out _ _⟩
end Go.Proofs.YtdgedclpaplgoaaDoor.ty
namespace Go.Proofs.YtdgedclpaplgoaaDoor.ty
open Go.ChangeShapes Go.WideShapes Go.ChangeAt Go.RowKit
set_option linter.unusedVariables false

set_option maxRecDepth 100000 in
theorem eqLabelS (l : List Label) (f1 f2 : Nat) (v1 v2 : Value) (w : World) (h1 : Lies w f1 v1 (.sl 2 l.length (l.flatMap Label.row))) (h2 : Lies w f2 v2 (.sl 2 l.length (l.flatMap Label.row))) :
    Calls Tryd.prog 20 #[v1, v2] w fun e w' => e = .returned (.bool true) ∧ Below w.heap.size w w' := by
  obtain ⟨A1, c1, rfl, hc1, hm1, f', rfl, hk1⟩ := els_of Label.row_length h1
  obtain ⟨A2, c2, rfl, hc2, hm2, f'', rfl, hk2⟩ := els_of Label.row_length h2
  unfold maxLen at hm1 hm2
  have Hk1 := Lib.hid hk1
  have Hk2 := Lib.hid hk2
  clear h1 h2 hk1 hk2
  go_enter Tryd.func20, Tryd.ntmps20
  go_wp2_with fail
  go_loopw [5] (fun i wr => ∃ (j : Nat), j ≤ l.length ∧ i = .int .i64 j ∧ Below w.heap.size w wr) (fun i _ => l.length - (intOf i).toNat)
  case atStart => exact ⟨0, Nat.zero_le _, rfl, Below.refl _ _⟩
  case round =>
    obtain ⟨j, hj, rfl, hbel⟩ := hrel
    by_cases hlt : j < l.length
    · obtain ⟨g1, o1, rfl, hg1, us, hus1, hcc1, hls1⟩ := (Hk1.out.below hbel).get hlt
      obtain ⟨g2, o2, rfl, hg2, us2, hus2, hcc2, hls2⟩ := (Hk2.out.below hbel).get hlt
      obtain ⟨rfl, hwf1⟩ := Label.opened hls1
      obtain ⟨rfl, hwf2⟩ := Label.opened hls2
      have q0 : wr.cell? ⟨g1, o1 + j * 2, none⟩ = some (.string l[j].key) := hcc1 0 _ rfl
      have q1 : wr.cell? ⟨g1, o1 + j * 2 + 1, none⟩ = some (.string l[j].value) := hcc1 1 _ rfl
      have r0 : wr.cell? ⟨g2, o2 + j * 2, none⟩ = some (.string l[j].key) := hcc2 0 _ rfl
      have r1 : wr.cell? ⟨g2, o2 + j * 2 + 1, none⟩ = some (.string l[j].value) := hcc2 1 _ rfl
      have HC := Lib.hid (fun w1 => eqLabel l[j] w1)
      have Hbel := Lib.hid hbel
      clear hls1 hls2 hbel hg1 hg2 hus1 hus2 hcc1 hcc2 hwf1 hwf2
      generalize l[j] = x at HC q0 q1 r0 r1
      go_wp2_with fail
      go_region_law (go_simp; go_at_call 52; refine (HC.out _).mono ?_; rintro e w1 ⟨rfl, hb1⟩)
      all_goals
        have hbel1 := Hbel.out.trans (((Below.refl _ _).drew.trans (hb1.mono (Nat.le_refl _))).mono Hbel.out.size)
        clear hb1 q0 q1 r0 r1
        go_wp2_with fail
        go_roundw
        case rel => exact ⟨j + 1, by omega, by go_num, hbel1⟩
        case measure => simp [intOf]; omega
    · obtain rfl : j = l.length := by omega
      have Hbel := Lib.hid hbel
      clear hbel
      go_wp2_with fail
      go_ret
      exact ⟨rfl, Hbel.out⟩
end Go.Proofs.YtdgedclpaplgoaaDoor.ty
namespace Go.Proofs.YtdgedclpaplgoaaDoor.ty
open Go.ChangeShapes Go.WideShapes Go.ChangeAt Go.RowKit
set_option linter.unusedVariables false

theorem mkLabelS_nil (k : Int) (w : World) (h0 : 0 ≤ k) (hk : k ≤ 4611686018427387904) :
    Calls Tryd.prog 21 #[.slice none 0 0, .int .i64 k] w fun e w' => e = .returned (.int .i64 k) ∧ w' = w := by
  go_enter Tryd.func21, Tryd.ntmps21
  go_wp2_with fail
  refine wp_loop_rounds 1 ?_
  rw [rounds_succ]
  go_wp2_with fail
  go_ret
  exact ⟨rfl, rfl⟩
set_option maxRecDepth 100000 in
set_option maxHeartbeats 8000000 in
theorem mkLabelS (B : Nat) (v : Value) (l : List Label) (f : Nat) (F : List Nat) (k : Int) (w : World) (hown : Own w B (f + 1) v (.sl 2 l.length (l.flatMap Label.row)) F) (hnd : F.Nodup) (h0 : 0 ≤ k) (hk : k + wsum Label.cost l ≤ 4611686018427387904) :
    Calls Tryd.prog 21 #[v, .int .i64 k] w fun e w' => e = .returned (.int .i64 (k + wsum Label.cost l)) ∧ Own w' B (f + 1) v (.sl 2 l.length ((mks Label.mark Label.cost l k).flatMap Label.row)) F ∧ KeptBut F w w' := by
  have hown' := hown
  obtain ⟨hl, ⟨rfl, hn, rfl⟩ | ⟨g, c, cur, e, Fs, rfl, h1, h2, h3, h4, hz, hF, h5, h6⟩⟩ := hown'
  · have : l = [] := List.eq_nil_of_length_eq_zero hn
    subst this
    refine (mkLabelS_nil k w h0 (by simpa [wsum] using hk)).mono ?_
    rintro e w' ⟨rfl, rfl⟩
    exact ⟨by simp [wsum], by simpa [mks] using hown, KeptBut.refl _ _⟩
  have hcm : l.length ≤ 9223372036854775807 := by unfold maxLen at h2; omega
  clear hl h3 h4 hz hF h5 h6 cur e Fs
  have Hown := Lib.hid hown
  clear hown
  go_enter Tryd.func21, Tryd.ntmps21
  go_wp2_with fail
  go_loopw [1, 5] (fun a i wr => ∃ (j : Nat), j ≤ l.length ∧ i = .int .i64 j ∧ a = .int .i64 (k + wsum Label.cost (l.take j)) ∧ Own wr B (f + 1) (.slice (some ⟨g, 0, none⟩) l.length c) (.sl 2 l.length ((mks Label.mark Label.cost (l.take j) k ++ l.drop j).flatMap Label.row)) F ∧ KeptBut F w wr) (fun _ i _ => l.length - (intOf i).toNat)
  case atStart => exact ⟨0, Nat.zero_le _, rfl, by simp [wsum], by simpa [mks] using Hown.out, KeptBut.refl _ _⟩
  case round =>
    clear Hown
    obtain ⟨j, hj, rfl, rfl, hown, hkb⟩ := hrel
    by_cases hlt : j < l.length
    · have hdrop : l.drop j = l[j] :: l.drop (j + 1) := List.drop_eq_getElem_cons hlt
      have hnext := wsum_take Label.cost hlt
      have hall := wsum_all Label.cost l (j + 1)
      have hmark := mks_next Label.mark Label.cost hlt k
      rw [hdrop, List.flatMap_append, List.flatMap_cons] at hown
      have Hmark := Lib.hid hmark
      have HL := Lib.hid (show ((mks Label.mark Label.cost (l.take j) k).flatMap Label.row).length = j * 2 by rw [flat_length' Label.row_length, mks_length, List.length_take]; congr 1; omega)
      have Hnext := Lib.hid hnext
      obtain ⟨a0, a1, hx⟩ : ∃ a0 a1, l[j] = Label.mk a0 a1 := ⟨l[j].key, l[j].value, rfl⟩
      rw [hx] at hown Hmark Hnext hnext
      rw [show Label.cost (Label.mk a0 a1) = 2 from rfl] at Hnext hnext
      generalize wsum Label.cost (l.take j) = C0 at *
      have hkk : k + C0 + 2 ≤ 4611686018427387904 := by omega
      clear hmark hnext hall hx hdrop
      obtain ⟨K, hK⟩ : ∃ K, k + C0 = K := ⟨_, rfl⟩
      rw [hK] at hkk Hmark ⊢
      have hK0 : 0 ≤ K := by omega
      have HK := Lib.hid hK
      clear hK
      generalize hLL : (mks Label.mark Label.cost (l.take j) k).flatMap Label.row = L at *
      generalize hRR : (l.drop (j + 1)).flatMap Label.row = R at *
      have hown0 : Own wr B (f + 1) (.slice (some ⟨g, 0, none⟩) l.length c) (.sl 2 l.length (mid L (Label.row (Label.mk a0 a1)) R)) F := hown
      clear hown
      cases f with
      | zero =>
        obtain ⟨_, _, _, _, ho, _⟩ := Own.field hown0 hnd HL.out (r := 0) rfl
        exact ho.elim
      | succ f =>
      have HMT := Lib.hid (fun m w hm => lawMark.mark_text m w hm)
      have e2 : (K + 1) + 1 = K + 2 := by omega
      go_wp2_with fail
      refine (HMT.out K _ (by omega)).mono ?_
      rintro e x1 ⟨rfl, hb1⟩
      have on1 := Own.below hown0 hb1
      have kn1 := KeptBut.trans hkb (KeptBut.of_below hb1)
      clear hb1 hown0 hkb
      obtain ⟨o0, b0, ⟨q0, p0⟩, f0⟩ := Own.put (r := 0) (d' := .str (lawMark.mt K)) (u' := .string (lawMark.mt K)) on1 hnd HL.out rfl trivial (fun w' => own_str (lawMark.mt_size _ (by omega)))
      have k0 := KeptBut.trans kn1 b0
      simp only [Nat.add_zero] at o0 k0 p0 f0 b0
      clear b0 on1 kn1
      have Ho1 := Lib.hid o0
      have Hkb1 := Lib.hid k0
      clear o0 k0
      go_wp2_with fail
      refine (HMT.out (K + 1) _ (by omega)).mono ?_
      rintro e x2 ⟨rfl, hb2⟩
      have on2 := Own.below Ho1.out hb2
      have kn2 := KeptBut.trans Hkb1.out (KeptBut.of_below hb2)
      clear p0 f0 hb2 Ho1 Hkb1
      obtain ⟨o1, b1, ⟨q1, p1⟩, f1⟩ := Own.put (r := 1) (d' := .str (lawMark.mt (K + 1))) (u' := .string (lawMark.mt (K + 1))) on2 hnd HL.out rfl trivial (fun w' => own_str (lawMark.mt_size _ (by omega)))
      have k1 := KeptBut.trans kn2 b1
      clear b1 on2 kn2
      have Ho9 : Hid (Own (x2.setCell ⟨g, j * 2 + 1, none⟩ (.string (lawMark.mt (K + 1)))) B (f + 1 + 1) (.slice (some ⟨g, 0, none⟩) l.length c) (.sl 2 l.length ((mks Label.mark Label.cost (l.take (j + 1)) k ++ l.drop (j + 1)).flatMap Label.row)) F) := by
        unfold Hid
        rw [Hmark.out, List.flatMap_append, List.flatMap_cons, hLL, hRR]
        exact o1
      have Hkb9 := Lib.hid k1
      clear o1 k1 HMT
      go_wp2_with fail
      go_roundw
      case rel => exact ⟨j + 1, by omega, by go_num, by rw [Hnext.out]; have := HK.out; congr 1; omega, Ho9.out, Hkb9.out⟩
      case measure => simp [intOf]; omega
    · obtain rfl : j = l.length := by omega
      rw [List.take_of_length_le (Nat.le_refl _), List.drop_of_length_le (Nat.le_refl _), List.append_nil] at hown
      have Hown := Lib.hid hown
      have Hkb := Lib.hid hkb
      clear hown hkb
      rw [List.take_of_length_le (Nat.le_refl _)]
      go_wp2_with fail
      go_ret
      exact ⟨rfl, Hown.out, Hkb.out⟩
end Go.Proofs.YtdgedclpaplgoaaDoor.ty
namespace Go.Proofs.YtdgedclpaplgoaaDoor.ty
open Go.ChangeShapes Go.WideShapes Go.ChangeAt Go.RowKit
set_option linter.unusedVariables false

set_option maxRecDepth 100000 in
set_option maxHeartbeats 8000000 in
theorem hdLabelS (l : List Label) (f : Nat) (v : Value) (k : Int) (w : World) (h : Lies w f v (.sl 2 l.length ((mks Label.mark Label.cost l k).flatMap Label.row))) (h0 : 0 ≤ k) (hkk : k + wsum Label.cost l ≤ 4611686018427387904) :
    Calls Tryd.prog 22 #[v, .int .i64 k] w fun e w' => e = .returned (.int .i64 (k + wsum Label.cost l)) ∧ Below w.heap.size w w' := by
  have hml := mks_length Label.mark Label.cost l k
  rw [← hml] at h
  obtain ⟨A, c, rfl, hc1, hc2, f', rfl, hk⟩ := els_of Label.row_length h
  rw [hml] at hc1 ⊢
  unfold maxLen at hc2
  have Hk := Lib.hid hk
  have Hml := Lib.hid hml
  clear h hk hml
  go_enter Tryd.func22, Tryd.ntmps22
  go_wp2_with fail
  go_loopw [1, 5] (fun a i wr => ∃ (j : Nat), j ≤ l.length ∧ i = .int .i64 j ∧ a = .int .i64 (k + wsum Label.cost (l.take j)) ∧ Below w.heap.size w wr) (fun _ i _ => l.length - (intOf i).toNat)
  case atStart => exact ⟨0, Nat.zero_le _, rfl, by simp [wsum], Below.refl _ _⟩
  case round =>
    obtain ⟨j, hj, rfl, rfl, hbel⟩ := hrel
    by_cases hlt : j < l.length
    · obtain ⟨g, o, rfl, hg, hcc⟩ := (Hk.out.below hbel) (by rw [Hml.out]; omega)
      obtain ⟨us, hus, hc, hls⟩ := hcc j _ (mks_get Label.mark Label.cost hlt k)
      obtain ⟨rfl, hwf⟩ := Label.opened hls
      have hnext := wsum_take Label.cost hlt
      have hall := wsum_all Label.cost l (j + 1)
      have Hnext := Lib.hid hnext
      rw [show Label.cost l[j] = 2 from rfl] at Hnext hnext
      generalize wsum Label.cost (l.take j) = C0 at *
      have hkk2 : k + C0 + 2 ≤ 4611686018427387904 := by omega
      obtain ⟨K, hK⟩ : ∃ K, k + C0 = K := ⟨_, rfl⟩
      rw [hK] at hc hkk2 ⊢
      have q0 : wr.cell? ⟨g, o + j * 2, none⟩ = some (.string (lawMark.mt K)) := hc 0 _ rfl
      have q1 : wr.cell? ⟨g, o + j * 2 + 1, none⟩ = some (.string (lawMark.mt (K + 1))) := hc 1 _ rfl
      have e2 : (K + 1) + 1 = K + 2 := by omega
      have HK := Lib.hid hK
      have hK0 : 0 ≤ K := by omega
      have HMT := Lib.hid (fun m w hm => lawMark.mark_text m w hm)
      have Hbel := Lib.hid hbel
      clear hcc hus hc hls hwf hnext hall hbel hK
      go_wp2_with fail
      go_region_law (go_simp; go_at_call 53; refine (HMT.out K _ (by omega)).mono ?_; rintro e y1 ⟨rfl, hb1⟩; have r1_0 : y1.cell? ⟨g, o + j * 2, none⟩ = some (.string (lawMark.mt K)) := (hb1.cell (p := ⟨g, o + j * 2, none⟩) hg).trans q0; have r1_1 : y1.cell? ⟨g, o + j * 2 + 1, none⟩ = some (.string (lawMark.mt (K + 1))) := (hb1.cell (p := ⟨g, o + j * 2 + 1, none⟩) hg).trans q1)
      all_goals
        have hg1 : g < y1.heap.size := Nat.lt_of_lt_of_le hg hb1.size
        have Hbel1 := Lib.hid (below_link Hbel.out ((Below.refl _ _).drew.trans (hb1.mono (Nat.le_refl _))) (Below.size Hbel.out))
        clear hb1 q0 q1
        go_wp2_with fail
        go_region_law (go_simp; go_at_call 53; refine (HMT.out (K + 1) _ (by omega)).mono ?_; rintro e y2 ⟨rfl, hb2⟩; have r2_1 : y2.cell? ⟨g, o + j * 2 + 1, none⟩ = some (.string (lawMark.mt (K + 1))) := (hb2.cell (p := ⟨g, o + j * 2 + 1, none⟩) hg1).trans r1_1)
        all_goals
          have hg2 : g < y2.heap.size := Nat.lt_of_lt_of_le hg1 hb2.size
          have Hbel2 := Lib.hid (below_link Hbel1.out ((Below.refl _ _).drew.trans (hb2.mono (Nat.le_refl _))) (Below.size Hbel1.out))
          clear hb2 r1_0 r1_1
          go_wp2_with fail
          go_roundw
          case rel => exact ⟨j + 1, by omega, by go_num, by rw [Hnext.out]; have := HK.out; congr 1; omega, Hbel2.out⟩
          case measure => simp [intOf]; omega
    · obtain rfl : j = l.length := by omega
      rw [List.take_of_length_le (Nat.le_refl _)]
      have Hbel := Lib.hid hbel
      clear hbel
      go_wp2_with fail
      go_ret
      exact ⟨rfl, Hbel.out⟩
end Go.Proofs.YtdgedclpaplgoaaDoor.ty
namespace Go.Proofs.YtdgedclpaplgoaaDoor.ty
open Go.ChangeShapes Go.WideShapes Go.ChangeAt Go.RowKit
set_option linter.unusedVariables false

instance : Inhabited Label := ⟨⟨⟨#[]⟩, ⟨#[]⟩⟩⟩
theorem csLabel : Tryd.prog.cellsOf 75 = 2 := by kernel_rfl
theorem csLabel_string : Tryd.prog.cellsOf 9 = 1 := by kernel_rfl
section
variable {H : Type} {enc : TypeId × Value → H} {w : World} {base : Nat} {sp : Nat → Bool} {held : Bool}
set_option maxRecDepth 100000 in
theorem trodLabel (fuel : Nat) (cs : List Value) (x : DataW H × List MemPlace) (h : DataW.trod enc Tryd.prog w base sp held fuel 75 cs = some x) : ∃ t : Label, LiesS w fuel cs t.row := by
  obtain ⟨xs, n, rfl, _, hl, hxl, hf⟩ := DataW.trod_struct Tryd.underlying75 h
  rw [csLabel] at hl
  have hxlk : xs.length = 2 := hxl
  obtain ⟨u0, u1, rfl⟩ := of_Label hl
  obtain ⟨y0, y1, rfl⟩ := of_Label hxlk
  have f0 := hf 0 _ rfl
  have f1 := hf 1 _ rfl
  simp only [csLabel_string, List.drop_zero, List.drop_succ_cons, List.take_succ_cons, List.take_zero, List.getElem?_cons_zero, List.getElem?_cons_succ] at f0 f1
  obtain ⟨z0, e0, _, w0⟩ := DataW.trod_string Tryd.underlying9 f0
  obtain ⟨z1, e1, _, w1⟩ := DataW.trod_string Tryd.underlying9 f1
  injection e0 with e0
  injection e1 with e1
  subst e0 e1
  refine ⟨⟨z0, z1⟩, ?_⟩
  cases n with
  | zero => simp [DataW.trod] at f0
  | succ n => exact (Label.lies (f := n) (x := ⟨z0, z1⟩) ⟨w0, w1⟩).deeper (by omega)
set_option maxRecDepth 100000 in
theorem open_LabelS {r : Reach} {b0 : Nat} {v : Value} {d : DataW H} {ps : List MemPlace}
    (hval : Value.okWide Tryd.prog w r b0 37 v) (hd : DataW.Trod enc Tryd.prog w base sp held 37 v d ps) : ∃ (l : List Label) (f : Nat), Lies w f v (.sl 2 l.length (l.flatMap Label.row)) := by
  obtain ⟨A, n, c, rfl⟩ := okWide_slice Tryd.underlying37 hval
  obtain ⟨fuel, hf⟩ := hd
  obtain ⟨v', l, h1, h2⟩ := lies_slice (α := Label) Label.row Tryd.underlying37 csLabel (by decide) Label.row_length (fun n cs' y _ hy => trodLabel n cs' y hy) hf
  have e : v' = .slice A n c := by simpa [Value.cells] using h1.symm
  subst e
  exact ⟨l, fuel, h2⟩
end
end Go.Proofs.YtdgedclpaplgoaaDoor.ty
