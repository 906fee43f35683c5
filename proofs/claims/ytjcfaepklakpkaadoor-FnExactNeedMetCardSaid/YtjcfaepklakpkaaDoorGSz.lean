/- Merged: SzStr SzNeed SzNeedS. -/
import Derived.Test.YtjcfaepklakpkaaDoorGPre
import Derived.Test.YtjcfaepklakpkaaDoorRows
import Derived.ProofKit
import Derived.OpenShut
namespace Go.Proofs.YtjcfaepklakpkaaDoor.ty
open Go.ChangeShapes Go.WideShapes Go.ChangeAt Go.RowKit
set_option linter.unusedVariables false

theorem szStr (ks : List ByteArray) (f : Nat) (v : Value) (left : Int) (w : World) (h : Lies w f v (.sl 1 ks.length (ks.flatMap Str.row))) (hl : LeftN left) :
    Calls Tryd.prog 44 #[v, .int .i64 left] w fun e w' => e = .returned (.int .i64 (cutN left (ks.length + wsum Str.wt ks))) ∧ Below w.heap.size w w' := by
  obtain ⟨A, c, rfl, hc, hm, hr, hks⟩ := Str.opened h
  unfold maxLen at hm
  unfold LeftN at hl
  have Hr := Lib.hid hr
  have Hks := Lib.hid hks
  clear hr hks h
  by_cases h0 : left < ks.length
  · have He := Lib.hid (cutN_no (show left < ((ks.length + wsum Str.wt ks : Nat) : Int) by omega))
    go_enter Tryd.func44, Tryd.ntmps44
    go_wp2_with fail
    go_ret
    exact ⟨by rw [He.out]; rfl, Below.refl _ _⟩
  · go_enter Tryd.func44, Tryd.ntmps44
    go_wp2_with fail
    go_loop [1, 5] (fun a i => ∃ (j : Nat) (l : Int), j ≤ ks.length ∧ i = .int .i64 j ∧ a = .int .i64 l ∧ 0 ≤ l ∧ l ≤ 1048576 ∧ Hid (l = left - ks.length - wsum Str.wt (ks.take j))) (fun _ i => ks.length - (intOf i).toNat)
    case atStart => exact ⟨0, left - ks.length, Nat.zero_le _, rfl, rfl, by omega, by omega, by unfold Hid; simp [wsum]⟩
    case round =>
      obtain ⟨j, l, hj, rfl, rfl, hl0, hl1, hin⟩ := hrel
      by_cases hlt : j < ks.length
      · obtain ⟨g, o, rfl, hg, hc0⟩ := Hr.out.2 (by omega)
        have hcell := hc0 j hlt _ (scells_get ks j hlt)
        have hsz := Hks.out ks[j] (List.getElem_mem hlt)
        unfold maxLen at hsz
        have hnext : wsum Str.wt (ks.take (j + 1)) = wsum Str.wt (ks.take j) + ks[j].size := wsum_take Str.wt hlt
        have hall := wsum_all Str.wt ks (j + 1)
        clear hc0 hg
        by_cases h1 : l < ks[j].size
        · have He := Lib.hid (cutN_no (show left < ((ks.length + wsum Str.wt ks : Nat) : Int) by have := hin.out; omega))
          clear hnext hall hin
          generalize ks[j] = x at hcell hsz h1
          go_wp2_with fail
          go_ret
          exact ⟨by rw [He.out]; rfl, Below.refl _ _⟩
        · have Hin := Lib.hid (show l - ks[j].size = left - ks.length - wsum Str.wt (ks.take (j + 1)) by have := hin.out; omega)
          clear hnext hall hin
          generalize ks[j] = x at hcell hsz h1 Hin
          go_wp2_with fail
          go_round
          case rel => exact ⟨j + 1, l - x.size, by omega, by go_num, rfl, by omega, by omega, Hin.out⟩
          case measure => simp [intOf]; omega
      · obtain rfl : j = ks.length := by omega
        rw [List.take_of_length_le (Nat.le_refl _)] at hin
        have He := Lib.hid (cutN_yes (show ¬ left < ((ks.length + wsum Str.wt ks : Nat) : Int) by have := hin.out; omega))
        have Hin := Lib.hid (show left - ((ks.length + wsum Str.wt ks : Nat) : Int) = l by have := hin.out; omega)
        clear hin
        go_wp2_with fail
        go_ret
        exact ⟨by rw [He.out, Hin.out]; rfl, Below.refl _ _⟩
end Go.Proofs.YtjcfaepklakpkaaDoor.ty
namespace Go.Proofs.YtjcfaepklakpkaaDoor.ty
open Go.ChangeShapes Go.WideShapes Go.ChangeAt Go.RowKit
set_option linter.unusedVariables false

theorem szNeed (x : Need) (f : Nat) (vs : List Value) (left : Int) (w : World) (h : LiesS w f vs x.row) (hl : LeftN left) :
    Calls Tryd.prog 17 #[.agg vs.toArray, .int .i64 left] w fun e w' => e = .returned (.int .i64 (cutN left x.wt)) ∧ Below w.heap.size w w' := by
  obtain ⟨a0, a1, a2⟩ := x
  obtain ⟨A2, c2, rfl, hwf, k2, m2, l2⟩ := Need.opened h
  simp only [Need.Wf] at *
  obtain ⟨w0, w1⟩ := hwf
  unfold maxLen at w0
  unfold LeftN at hl
  rw [show Need.wt ⟨a0, a1, a2⟩ = a0.size + (a2.length + wsum Str.wt a2) from rfl]
  have HB := Lib.hid (Box.new 36 w [.string a0, .int .i64 a1, .slice A2 a2.length c2])
  have H2 := Lib.hid (fun w1 left (hb : Below w.heap.size w w1) hl => szStr a2 f (.slice A2 a2.length c2) left w1 (l2.below hb) hl)
  clear h l2 k2 m2
  have p0 := HB.out.cell (j := 0) rfl
  have p2 := HB.out.cell (j := 2) rfl
  generalize hX2 : a2.length + wsum Str.wt a2 = X2 at H2 ⊢
  by_cases h0 : left < (a0.size : Int)
  · have He := Lib.hid (cutN_no (show left < ((a0.size + X2 : Nat) : Int) by omega))
    clear hX2 H2
    go_enter Tryd.func17, Tryd.ntmps17
    go_wp2_with fail
    go_ret
    exact ⟨by rw [He.out]; rfl, HB.out.1⟩
  by_cases h2 : left - (a0.size : Int) < (X2 : Int)
  · have He := Lib.hid (cutN_no (show left < ((a0.size + X2 : Nat) : Int) by omega))
    have J2 := Lib.hid (fun w1 hb => H2.out w1 (left - (a0.size : Int)) hb ⟨by omega, by omega⟩)
    rw [cutN_no h2] at J2
    clear hX2 H2
    go_enter Tryd.func17, Tryd.ntmps17
    go_wp2_with fail
    refine (J2.out _ HB.out.1).mono ?_
    rintro e x2 ⟨rfl, hb2⟩
    have HB2 := Lib.hid (HB.out.below hb2)
    clear hb2 J2
    go_wp2_with fail
    go_ret
    exact ⟨by rw [He.out]; rfl, HB2.out.1⟩
  have He := Lib.hid (cutN_yes (show ¬ left < ((a0.size + X2 : Nat) : Int) by omega))
  have He2 := Lib.hid (show left - ((a0.size + X2 : Nat) : Int) = left - (a0.size : Int) - (X2 : Int) by omega)
  have J2 := Lib.hid (fun w1 hb => H2.out w1 (left - (a0.size : Int)) hb ⟨by omega, by omega⟩)
  rw [cutN_yes h2] at J2
  clear hX2 H2
  go_enter Tryd.func17, Tryd.ntmps17
  go_wp2_with fail
  refine (J2.out _ HB.out.1).mono ?_
  rintro e x2 ⟨rfl, hb2⟩
  have HB2 := Lib.hid (HB.out.below hb2)
  clear hb2 J2
  go_wp2_with fail
  go_ret
  exact ⟨by rw [He.out, He2.out]; rfl, HB2.out.1⟩
end Go.Proofs.YtjcfaepklakpkaaDoor.ty
namespace Go.Proofs.YtjcfaepklakpkaaDoor.ty
open Go.ChangeShapes Go.WideShapes Go.ChangeAt Go.RowKit
set_option linter.unusedVariables false

theorem szNeedS (l : List Need) (f : Nat) (v : Value) (left : Int) (w : World) (h : Lies w f v (.sl 3 l.length (l.flatMap Need.row))) (hl : LeftN left) :
    Calls Tryd.prog 24 #[v, .int .i64 left] w fun e w' => e = .returned (.int .i64 (cutN left (l.length + wsum Need.wt l))) ∧ Below w.heap.size w w' := by
  obtain ⟨A, c, rfl, hc1, hc2, f', rfl, hk⟩ := els_of Need.row_length h
  unfold maxLen at hc2
  unfold LeftN at hl
  have Hk := Lib.hid hk
  clear h hk
  by_cases h0 : left < l.length
  · have He := Lib.hid (cutN_no (show left < ((l.length + wsum Need.wt l : Nat) : Int) by omega))
    go_enter Tryd.func24, Tryd.ntmps24
    go_wp2_with fail
    go_ret
    exact ⟨by rw [He.out]; rfl, Below.refl _ _⟩
  go_enter Tryd.func24, Tryd.ntmps24
  go_wp2_with fail
  go_loopw [1, 5] (fun a i wr => ∃ (j : Nat) (z : Int), j ≤ l.length ∧ i = .int .i64 j ∧ a = .int .i64 z ∧ 0 ≤ z ∧ z ≤ 1048576 ∧ Hid (z = left - l.length - wsum Need.wt (l.take j)) ∧ Below w.heap.size w wr) (fun _ i _ => l.length - (intOf i).toNat)
  case atStart => exact ⟨0, left - l.length, Nat.zero_le _, rfl, rfl, by omega, by omega, by unfold Hid; simp [wsum], Below.refl _ _⟩
  case round =>
    obtain ⟨j, z, hj, rfl, rfl, hz0, hz1, hin, hbel⟩ := hrel
    by_cases hlt : j < l.length
    · obtain ⟨g, o, rfl, hg, us, hus, hc, hls⟩ := (Hk.out.below hbel).get hlt
      have HC := Lib.hid (szNeed l[j] _ us z wr hls ⟨hz0, hz1⟩)
      obtain ⟨A2, c2, rfl, hwf, k2, m2, l2⟩ := Need.opened hls
      have q0 : wr.cell? ⟨g, o + j * 3, none⟩ = some (.string l[j].key) := hc 0 _ rfl
      have q1 : wr.cell? ⟨g, o + j * 3 + 1, none⟩ = some (.int .i64 l[j].op) := hc 1 _ rfl
      have q2 : wr.cell? ⟨g, o + j * 3 + 2, none⟩ = some (.slice A2 l[j].values.length c2) := hc 2 _ rfl
      have hnext := wsum_take Need.wt hlt
      have hall := wsum_all Need.wt l (j + 1)
      have Hbel := Lib.hid hbel
      clear hls hbel hg hus hc hwf k2 m2 l2
      by_cases h1 : z < (l[j].wt : Int)
      · have He := Lib.hid (cutN_no (show left < ((l.length + wsum Need.wt l : Nat) : Int) by have := hin.out; omega))
        rw [cutN_no h1] at HC
        clear hnext hall hin h1
        generalize l[j] = x at q0 q1 q2 HC
        go_wp2_with fail
        refine HC.out.mono ?_
        rintro e w1 ⟨rfl, hb1⟩
        have Hbel1 := Lib.hid (Hbel.out.trans (hb1.mono Hbel.out.size))
        clear hb1 q0 q1 q2
        go_wp2_with fail
        go_ret
        exact ⟨by rw [He.out]; rfl, Hbel1.out⟩
      · have Hin := Lib.hid (show z - l[j].wt = left - l.length - wsum Need.wt (l.take (j + 1)) by have := hin.out; omega)
        rw [cutN_yes h1] at HC
        clear hnext hall hin
        generalize l[j] = x at q0 q1 q2 HC h1 Hin
        generalize x.wt = y at HC h1 Hin
        go_wp2_with fail
        refine HC.out.mono ?_
        rintro e w1 ⟨rfl, hb1⟩
        have Hbel1 := Lib.hid (Hbel.out.trans (hb1.mono Hbel.out.size))
        clear hb1 q0 q1 q2
        go_wp2_with fail
        go_roundw
        case rel => exact ⟨j + 1, z - y, by omega, by go_num, rfl, by omega, by omega, Hin.out, Hbel1.out⟩
        case measure => simp [intOf]; omega
    · obtain rfl : j = l.length := by omega
      rw [List.take_of_length_le (Nat.le_refl _)] at hin
      have He := Lib.hid (cutN_yes (show ¬ left < ((l.length + wsum Need.wt l : Nat) : Int) by have := hin.out; omega))
      have Hin := Lib.hid (show left - ((l.length + wsum Need.wt l : Nat) : Int) = z by have := hin.out; omega)
      have Hbel := Lib.hid hbel
      clear hin hbel
      go_wp2_with fail
      go_ret
      exact ⟨by rw [He.out, Hin.out]; rfl, Hbel.out⟩
end Go.Proofs.YtjcfaepklakpkaaDoor.ty
