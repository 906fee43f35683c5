/- Merged: LawStrEq EqStr EqNeed EqNeedS. -/
import Derived.Test.YtjcfaepklakpkaaDoorRows
import Derived.Test.YtjcfaepklakpkaaDoorBase
import Derived.ProofKit
import Derived.OpenShut
import Derived.Test.YtjcfaepklakpkaaDoorGPre
namespace Go.Proofs.YtjcfaepklakpkaaDoor.lawStr
open Go.ChangeShapes Go.WideShapes Go.ChangeAt Go.RowKit
set_option linter.unusedVariables false

theorem eq_yes (A1 A2 : Option Addr) (n c1 c2 : Nat) (l : List ByteArray) (w : World) (hn : n ≤ maxLen) (hln : l.length = n) (h1 : Rd w A1 n (scells l)) (h2 : Rd w A2 n (scells l)) :
    Calls Tryd.prog 46 #[.slice A1 n c1, .slice A2 n c2] w fun e w' => e = .returned (.bool true) ∧ ∃ n, w' = w.drewN n := by
  unfold maxLen at hn
  have H1 := Lib.hid h1
  have H2 := Lib.hid h2
  have Hl := Lib.hid hln
  clear h1 h2 hln
  go_enter Tryd.func46, Tryd.ntmps46
  go_wp2_with fail
  go_loopw [5] (fun i wr => ∃ k : Nat, k ≤ n ∧ i = .int .i64 k ∧ ∃ q, wr = w.drewN q) (fun i _ => n - (intOf i).toNat)
  case atStart => exact ⟨0, Nat.zero_le _, rfl, 0, rfl⟩
  case round =>
    obtain ⟨k, hk, rfl, q, rfl⟩ := hrel
    by_cases hlt : k < n
    · obtain ⟨g1, o1, rfl, _, hc1⟩ := H1.out.2 (by omega)
      obtain ⟨g2, o2, rfl, _, hc2⟩ := H2.out.2 (by omega)
      have d1 : w.cell? ⟨g1, o1 + k, none⟩ = some (.string (l.getD k ByteArray.empty)) := hc1 k hlt _ (by rw [scells_get l k (by have := Hl.out; omega)]; simp [List.getD, Hl.out, hlt])
      have d2 : w.cell? ⟨g2, o2 + k, none⟩ = some (.string (l.getD k ByteArray.empty)) := hc2 k hlt _ (by rw [scells_get l k (by have := Hl.out; omega)]; simp [List.getD, Hl.out, hlt])
      clear hc1 hc2
      generalize l.getD k ByteArray.empty = x at d1 d2
      go_wp2_with fail
      go_quiet (fail)
      go_wp2_with fail
      go_roundw
      case rel => exact ⟨k + 1, by omega, by go_num, _, rfl⟩
      case measure => simp [intOf]; omega
    · go_wp2_with fail
      go_ret
      exact ⟨rfl, _, rfl⟩

end Go.Proofs.YtjcfaepklakpkaaDoor.lawStr
namespace Go.Proofs.YtjcfaepklakpkaaDoor.ty
open Go.ChangeShapes Go.WideShapes Go.ChangeAt Go.RowKit
set_option linter.unusedVariables false

theorem eqStr (l : List ByteArray) (f1 f2 : Nat) (v1 v2 : Value) (w : World) (h1 : Lies w f1 v1 (.sl 1 l.length (l.flatMap Str.row))) (h2 : Lies w f2 v2 (.sl 1 l.length (l.flatMap Str.row))) :
    Calls Tryd.prog 46 #[v1, v2] w fun e w' => e = .returned (.bool true) ∧ Below w.heap.size w w' := by
  obtain ⟨A1, c1, rfl, k1, m1, r1, _⟩ := Str.opened h1
  obtain ⟨A2, c2, rfl, k2, m2, r2, _⟩ := Str.opened h2
  refine (lawStr.eq_yes A1 A2 l.length c1 c2 l w (by omega) rfl r1 r2).mono ?_
  rintro e w1 ⟨rfl, n, rfl⟩
  exact ⟨rfl, below_drewN (Below.refl _ _) n⟩
end Go.Proofs.YtjcfaepklakpkaaDoor.ty
namespace Go.Proofs.YtjcfaepklakpkaaDoor.ty
open Go.ChangeShapes Go.WideShapes Go.ChangeAt Go.RowKit
set_option linter.unusedVariables false

theorem eqNeed (x : Need) (f1 f2 : Nat) (vs us : List Value) (w : World) (h1 : LiesS w f1 vs x.row) (h2 : LiesS w f2 us x.row) :
    Calls Tryd.prog 19 #[.agg vs.toArray, .agg us.toArray] w fun e w' => e = .returned (.bool true) ∧ Below w.heap.size w w' := by
  obtain ⟨a0, a1, a2⟩ := x
  obtain ⟨A2, c2, rfl, hwf, k2, m2, l2⟩ := Need.opened h1
  obtain ⟨B2, d2, rfl, hwf2, k2_, m2_, r2⟩ := Need.opened h2
  simp only at *
  have HB1 := Lib.hid (Box.new 30 w [.string a0, .int .i64 a1, .slice A2 a2.length c2])
  have HB2 := Lib.hid (HB1.out.below ((Below.refl _ _).alloc (Nat.le_refl _) (.cells #[.string a0, .int .i64 a1, .slice B2 a2.length d2] 30)))
  have HB3 := Lib.hid (Box.new 30 (w.alloc (.cells #[.string a0, .int .i64 a1, .slice A2 a2.length c2] 30)) [.string a0, .int .i64 a1, .slice B2 a2.length d2])
  have hsz : (w.alloc (.cells #[.string a0, .int .i64 a1, .slice A2 a2.length c2] 30)).heap.size = w.heap.size + 1 := by simp
  have E2 := Lib.hid (fun w1 (hb : Below w.heap.size w w1) => eqStr a2 f1 f2 (.slice A2 a2.length c2) (.slice B2 a2.length d2) w1 (l2.below hb) (r2.below hb))
  have p0 := HB2.out.cell (j := 0) rfl
  have p1 := HB2.out.cell (j := 1) rfl
  have p2 := HB2.out.cell (j := 2) rfl
  have q0 := HB3.out.cell (j := 0) rfl
  have q1 := HB3.out.cell (j := 1) rfl
  have q2 := HB3.out.cell (j := 2) rfl
  rw [hsz] at q0 q1 q2
  have hq := HB3.out.2
  rw [hsz] at hq
  have Hq := Lib.hid hq
  have Hp := Lib.hid HB2.out.2
  have Hbb := Lib.hid HB2.out.1
  clear h1 h2 hwf hwf2 HB1 HB2 HB3 hq hsz l2 r2 k2 m2 k2_ m2_
  go_enter Tryd.func19, Tryd.ntmps19
  go_wp2_with fail
  refine (E2.out _ Hbb.out).mono ?_
  rintro e y2 ⟨rfl, b2⟩
  have Hbb2 := Lib.hid (Hbb.out.trans (b2.mono Hbb.out.size))
  clear p0 p1 p2 q0 q1 q2
  clear b2
  go_wp2_with fail
  go_ret
  exact ⟨rfl, Hbb2.out⟩
end Go.Proofs.YtjcfaepklakpkaaDoor.ty
namespace Go.Proofs.YtjcfaepklakpkaaDoor.ty
open Go.ChangeShapes Go.WideShapes Go.ChangeAt Go.RowKit
set_option linter.unusedVariables false

set_option maxRecDepth 100000 in
theorem eqNeedS (l : List Need) (f1 f2 : Nat) (v1 v2 : Value) (w : World) (h1 : Lies w f1 v1 (.sl 3 l.length (l.flatMap Need.row))) (h2 : Lies w f2 v2 (.sl 3 l.length (l.flatMap Need.row))) :
    Calls Tryd.prog 28 #[v1, v2] w fun e w' => e = .returned (.bool true) ∧ Below w.heap.size w w' := by
  obtain ⟨A1, c1, rfl, hc1, hm1, f', rfl, hk1⟩ := els_of Need.row_length h1
  obtain ⟨A2, c2, rfl, hc2, hm2, f'', rfl, hk2⟩ := els_of Need.row_length h2
  unfold maxLen at hm1 hm2
  have Hk1 := Lib.hid hk1
  have Hk2 := Lib.hid hk2
  clear h1 h2 hk1 hk2
  go_enter Tryd.func28, Tryd.ntmps28
  go_wp2_with fail
  go_loopw [5] (fun i wr => ∃ (j : Nat), j ≤ l.length ∧ i = .int .i64 j ∧ Below w.heap.size w wr) (fun i _ => l.length - (intOf i).toNat)
  case atStart => exact ⟨0, Nat.zero_le _, rfl, Below.refl _ _⟩
  case round =>
    obtain ⟨j, hj, rfl, hbel⟩ := hrel
    by_cases hlt : j < l.length
    · obtain ⟨g1, o1, rfl, hg1, us, hus1, hcc1, hls1⟩ := (Hk1.out.below hbel).get hlt
      obtain ⟨g2, o2, rfl, hg2, us2, hus2, hcc2, hls2⟩ := (Hk2.out.below hbel).get hlt
      have HC := Lib.hid (fun w1 (hb : Below wr.heap.size wr w1) => eqNeed l[j] _ _ us us2 w1 (hls1.kept hb.block) (hls2.kept hb.block))
      obtain ⟨A2, c2, rfl, hwf, k2, m2, l2⟩ := Need.opened hls1
      obtain ⟨B2, d2, rfl, hwf2, k2_, m2_, r2⟩ := Need.opened hls2
      have q0 : wr.cell? ⟨g1, o1 + j * 3, none⟩ = some (.string l[j].key) := hcc1 0 _ rfl
      have q1 : wr.cell? ⟨g1, o1 + j * 3 + 1, none⟩ = some (.int .i64 l[j].op) := hcc1 1 _ rfl
      have q2 : wr.cell? ⟨g1, o1 + j * 3 + 2, none⟩ = some (.slice A2 l[j].values.length c2) := hcc1 2 _ rfl
      have s0 : wr.cell? ⟨g2, o2 + j * 3, none⟩ = some (.string l[j].key) := hcc2 0 _ rfl
      have s1 : wr.cell? ⟨g2, o2 + j * 3 + 1, none⟩ = some (.int .i64 l[j].op) := hcc2 1 _ rfl
      have s2 : wr.cell? ⟨g2, o2 + j * 3 + 2, none⟩ = some (.slice B2 l[j].values.length d2) := hcc2 2 _ rfl
      have Hbel := Lib.hid hbel
      clear hls1 hls2 hbel hg1 hg2 hus1 hus2 hcc1 hcc2 hwf hwf2 l2 r2 k2 m2 k2_ m2_
      generalize l[j] = x at HC q0 s0 q1 s1 q2 s2
      go_wp2_with fail
      go_region_law (go_simp; go_at_call 19; refine (HC.out _ (Below.refl _ _).drew).mono ?_; rintro e w1 ⟨rfl, hb1⟩)
      all_goals
        have hbel1 := Hbel.out.trans (((Below.refl _ _).drew.trans (hb1.mono (Nat.le_refl _))).mono Hbel.out.size)
        clear hb1 q0 s0 q1 s1 q2 s2
        go_wp2_with fail
        go_roundw
        case rel => exact ⟨j + 1, by omega, by go_num, hbel1⟩
        case measure => simp [intOf]; omega
    · obtain rfl : j = l.length := by omega
      have Hbel := Lib.hid hbel
      clear hbel
      go_wp2_with fail
      go_ret
      exact ⟨rfl, Hbel.out⟩
end Go.Proofs.YtjcfaepklakpkaaDoor.ty
