/- spec.Selects. -/
import Derived.Test.YtjcfaepklakpkaaDoorMetS
import Derived.Test.YtjcfaepklakpkaaDoorGNS
namespace Go.Proofs.YtjcfaepklakpkaaDoor.need
open Go.ChangeShapes Go.WideShapes Go.ChangeAt Go.RowKit ty lab
set_option linter.unusedVariables false
set_option maxRecDepth 100000 in
set_option maxHeartbeats 16000000 in
theorem spec_selects (l : List Need) (labs : List Label) (f1 f2 : Nat) (v1 v2 : Value) (w : World) (h1 : Lies w f1 v1 (.sl 3 l.length (l.flatMap Need.row))) (h2 : Lies w f2 v2 (.sl 2 labs.length (labs.flatMap Label.row))) (hw : l.length + wsum Need.wt l ≤ 1048576) :
    Calls Tryd.prog 15 #[v1, v2] w fun e w' => e = .returned (.bool (selF l labs)) ∧ Below w.heap.size w w' := by
  obtain ⟨A, c, rfl, hc1, hc2, f', rfl, hk⟩ := els_of Need.row_length h1
  unfold maxLen at hc2
  obtain ⟨R, hR⟩ : ∃ R, selF l labs = R := ⟨_, rfl⟩
  rw [hR]
  have Hno : Hid (∀ k (h : k < l.length), metF labs l[k] = false → R = false) := fun k h h2 => by rw [← hR]; exact sel_no h h2
  have Hyes : Hid ((∀ k (h : k < l.length), metF labs l[k] = true) → R = true) := fun h => by rw [← hR]; exact sel_yes h
  have Hwt : Hid (∀ j (h : j < l.length), l[j].wt ≤ 1048576) := fun j h => by have := wsum_mem Need.wt h; omega
  have Hk := Lib.hid hk
  have H2 := Lib.hid h2
  obtain ⟨A2, c2, rfl, _, _, _, _, _⟩ := els_of Label.row_length h2
  clear h1 hk hR hw h2
  go_enter Tryd.func15, Tryd.ntmps15
  go_wp2_with fail
  go_loopw [5] (fun i wr => ∃ j : Nat, j ≤ l.length ∧ i = .int .i64 j ∧ Hid (∀ k (_ : k < j) (h : k < l.length), metF labs l[k] = true) ∧ Below w.heap.size w wr) (fun i _ => l.length - (intOf i).toNat)
  case atStart => exact ⟨0, Nat.zero_le _, rfl, fun i hi hj => by omega, Below.refl _ _⟩
  case round =>
    obtain ⟨j, hj, rfl, hgood, hbel⟩ := hrel
    have Hbel := Lib.hid hbel
    by_cases hlt : j < l.length
    · obtain ⟨g, o, A3, c3, rfl, q0, q1, q2, hls⟩ := el_at Hk.out hbel hlt
      have z : BelowBy wr := ⟨wr, Below.refl _ _⟩
      have q0 := q0 ⟨wr, Below.refl _ _⟩
      have q1 := q1 ⟨wr, Below.refl _ _⟩
      have q2 := q2 ⟨wr, Below.refl _ _⟩
      have HM := Lib.hid (spec_met labs l[j] f2 f' _ _ wr (H2.out.below hbel) (hls ⟨wr, Below.refl _ _⟩) (Hwt.out j hlt))
      clear z hls hbel
      cases hb : metF labs l[j] with
      | true =>
        rw [hb] at HM
        have Hnx : Hid (∀ k (_ : k < j + 1) (h : k < l.length), metF labs l[k] = true) := fun k hk h => by
          by_cases e : k = j
          · subst e; exact hb
          · exact hgood.out k (by omega) h
        clear hb hgood Hno Hyes Hwt
        generalize l[j] = x at q0 q1 q2 HM
        go_wp2_with fail
        refine HM.out.mono ?_
        rintro e w1 ⟨rfl, hb1⟩
        have Hb1 := Lib.hid (Hbel.out.trans (hb1.mono Hbel.out.size))
        clear hb1
        go_wp2_with fail
        go_roundw
        case rel => exact ⟨j + 1, by omega, by go_num, Hnx.out, Hb1.out⟩
        case measure => simp [intOf]; omega
      | false =>
        rw [hb] at HM
        have Hf := Lib.hid (Hno.out j hlt hb)
        clear hb hgood Hno Hyes Hwt
        generalize l[j] = x at q0 q1 q2 HM
        go_wp2_with fail
        refine HM.out.mono ?_
        rintro e w1 ⟨rfl, hb1⟩
        have Hb1 := Lib.hid (Hbel.out.trans (hb1.mono Hbel.out.size))
        clear hb1
        go_wp2_with fail
        go_ret
        exact ⟨by rw [Hf.out]; rfl, Hb1.out⟩
    · obtain rfl : j = l.length := by omega
      have Hf := Lib.hid (Hyes.out fun k hk => hgood.out k hk hk)
      clear hgood hbel
      go_wp2_with fail
      go_ret
      exact ⟨by rw [Hf.out]; rfl, Hbel.out⟩
end Go.Proofs.YtjcfaepklakpkaaDoor.need
