/- laws.eqNeedS, on equal ones. Printed by gen/gen_ns.py. -/
import Derived.Test.YtjcfaepklakpkaaEqNeed
namespace Go.Proofs.Ytjcfaepklakpkaa.ty
open Go.ChangeShapes Go.WideShapes Go.ChangeAt Go.RowKit
set_option linter.unusedVariables false

set_option maxRecDepth 100000 in
theorem eqNeedS (l : List Need) (f1 f2 : Nat) (v1 v2 : Value) (w : World) (h1 : Lies w f1 v1 (.sl 3 l.length (l.flatMap Need.row))) (h2 : Lies w f2 v2 (.sl 3 l.length (l.flatMap Need.row))) :
    Calls Try.prog 14 #[v1, v2] w fun e w' => e = .returned (.bool true) ∧ Below w.heap.size w w' := by
  obtain ⟨A1, c1, rfl, hc1, hm1, f', rfl, hk1⟩ := els_of Need.row_length h1
  obtain ⟨A2, c2, rfl, hc2, hm2, f'', rfl, hk2⟩ := els_of Need.row_length h2
  unfold maxLen at hm1 hm2
  have Hk1 := Lib.hid hk1
  have Hk2 := Lib.hid hk2
  clear h1 h2 hk1 hk2
  go_enter Try.func14, Try.ntmps14
  go_wp2_with fail
  go_loopw [5] (fun i wr => ∃ (j : Nat), j ≤ l.length ∧ i = .int .i64 j ∧ Below w.heap.size w wr) (fun i _ => l.length - (intOf i).toNat)
  case atStart => exact ⟨0, Nat.zero_le _, rfl, Below.refl _ _⟩
  case round =>
    obtain ⟨j, hj, rfl, hbel⟩ := hrel
    by_cases hlt : j < l.length
    · obtain ⟨g1, o1, rfl, hg1, us, hus1, hcc1, hls1⟩ := (Hk1.out.below hbel).get hlt
      obtain ⟨g2, o2, rfl, hg2, us2, hus2, hcc2, hls2⟩ := (Hk2.out.below hbel).get hlt
      have HC := Lib.hid (fun w1 (hb : Below wr.heap.size wr w1) => eqNeed l[j] _ _ us us2 w1 (hls1.kept hb.block) (hls2.kept hb.block))
      obtain ⟨A2, c2, rfl, hwf, k2, m2, l2⟩ := Need.opened hls1
      obtain ⟨B2, d2, rfl, hwf2, k2_, m2_, r2⟩ := Need.opened hls2
      have q0 : wr.cell? ⟨g1, o1 + j * 3, none⟩ = some (.string l[j].key) := hcc1 0 _ rfl
      have q1 : wr.cell? ⟨g1, o1 + j * 3 + 1, none⟩ = some (.int .i64 l[j].op) := hcc1 1 _ rfl
      have q2 : wr.cell? ⟨g1, o1 + j * 3 + 2, none⟩ = some (.slice A2 l[j].values.length c2) := hcc1 2 _ rfl
      have s0 : wr.cell? ⟨g2, o2 + j * 3, none⟩ = some (.string l[j].key) := hcc2 0 _ rfl
      have s1 : wr.cell? ⟨g2, o2 + j * 3 + 1, none⟩ = some (.int .i64 l[j].op) := hcc2 1 _ rfl
      have s2 : wr.cell? ⟨g2, o2 + j * 3 + 2, none⟩ = some (.slice B2 l[j].values.length d2) := hcc2 2 _ rfl
      have Hbel := Lib.hid hbel
      clear hls1 hls2 hbel hg1 hg2 hus1 hus2 hcc1 hcc2 hwf hwf2 l2 r2 k2 m2 k2_ m2_
      generalize l[j] = x at HC q0 s0 q1 s1 q2 s2
      go_wp2_with fail
      go_region_law (go_simp; go_at_call 9; refine (HC.out _ (Below.refl _ _).drew).mono ?_; rintro e w1 ⟨rfl, hb1⟩)
      all_goals
        have hbel1 := Hbel.out.trans (((Below.refl _ _).drew.trans (hb1.mono (Nat.le_refl _))).mono Hbel.out.size)
        clear hb1 q0 s0 q1 s1 q2 s2
        go_wp2_with fail
        go_roundw
        case rel => exact ⟨j + 1, by omega, by go_num, hbel1⟩
        case measure => simp [intOf]; omega
    · obtain rfl : j = l.length := by omega
      have Hbel := Lib.hid hbel
      clear hbel
      go_wp2_with fail
      go_ret
      exact ⟨rfl, Hbel.out⟩
end Go.Proofs.Ytjcfaepklakpkaa.ty
