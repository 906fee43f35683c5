/- spec.l15Has, spec.NeedMet. -/
import Derived.Test.YtjcfaepklakpkaaDoorGNS
import Derived.Test.YtjcfaepklakpkaaDoorLabAtS
namespace Go.Proofs.YtjcfaepklakpkaaDoor.need
open Go.ChangeShapes Go.WideShapes Go.ChangeAt Go.RowKit ty lab
set_option linter.unusedVariables false

set_option maxRecDepth 100000 in
theorem spec_has (l : List ByteArray) (s : ByteArray) (f : Nat) (v : Value) (w : World) (h : Lies w f v (.sl 1 l.length (l.flatMap Str.row))) :
    Calls Tryd.prog 49 #[v, .string s] w fun e w' => e = .returned (.bool (yes (s ∈ l))) ∧ w = w' := by
  obtain ⟨A, c, rfl, hc, hm, hr, hz⟩ := Str.opened h
  unfold maxLen at hm
  obtain ⟨R, hR⟩ : ∃ R, yes (s ∈ l) = R := ⟨_, rfl⟩
  rw [hR]
  have Hno : Hid (¬ s ∈ l → R = false) := fun h => by rw [← hR]; exact yes_f h
  have Hyes : Hid (s ∈ l → R = true) := fun h => by rw [← hR]; exact yes_t h
  have Hr := Lib.hid hr
  clear h hr hz hR
  go_enter Tryd.func49, Tryd.ntmps49
  go_wp2_with fail
  go_loop [5] (fun i => ∃ j : Nat, j ≤ l.length ∧ i = .int .i64 j ∧ Hid (∀ q (hq : q < j) (hl : q < l.length), l[q] ≠ s)) (fun i => l.length - (intOf i).toNat)
  case atStart => exact ⟨0, Nat.zero_le _, rfl, fun q hq => by omega⟩
  case round =>
    obtain ⟨j, hj, rfl, hall⟩ := hrel
    by_cases hlt : j < l.length
    · obtain ⟨g, o, rfl, hg, hc0⟩ := Hr.out.2 (by omega)
      have q0 := hc0 j hlt _ (scells_get l j hlt)
      by_cases he : l[j] = s
      · have Hf := Lib.hid (Hyes.out (by rw [← he]; exact List.getElem_mem hlt))
        have hs := same_yes he
        clear he Hno Hyes hall hc0 hg
        generalize l[j] = x at q0 hs
        go_wp2_with fail
        go_ret
        exact ⟨by rw [Hf.out]; rfl, rfl⟩
      · have Hs := Lib.hid he
        have hs := same_no he
        clear he Hno Hyes hc0 hg
        generalize l[j] = x at q0 hs
        go_wp2_with fail
        go_round
        case rel => exact ⟨j + 1, by omega, by go_num, fun q hq hl => by
          by_cases e : q = j
          · subst e; exact Hs.out
          · exact hall.out q (by omega) hl⟩
        case measure => simp [intOf]; omega
    · obtain rfl : j = l.length := by omega
      have Hf := Lib.hid (Hno.out fun hm => by
        obtain ⟨q, hq, e⟩ := List.getElem_of_mem hm
        exact hall.out q hq hq e)
      clear hall
      go_wp2_with fail
      go_ret
      exact ⟨by rw [Hf.out]; rfl, rfl⟩
theorem fin_ret {R S : Bool} (h : R = S) : Ending.returned (.bool R) = .returned (.bool S) := by rw [h]
set_option maxRecDepth 100000 in
set_option maxHeartbeats 16000000 in
theorem spec_met (l : List Label) (x : Need) (f1 f2 : Nat) (v1 : Value) (vs : List Value) (w : World) (h1 : Lies w f1 v1 (.sl 2 l.length (l.flatMap Label.row))) (h2 : LiesS w f2 vs x.row) (hw : x.wt ≤ 1048576) :
    Calls Tryd.prog 21 #[v1, .agg vs.toArray] w fun e w' => e = .returned (.bool (metF l x)) ∧ Below w.heap.size w w' := by
  have HN := Lib.hid (fun w1 (hb : Below w.heap.size w w1) => spec_need x f2 vs w1 (h2.kept hb.block) hw)
  have HA := Lib.hid (fun w1 (hb : Below w.heap.size w w1) => spec_at l x.key f1 v1 w1 (h1.below hb))
  obtain ⟨R, hR⟩ : ∃ R, metF l x = R := ⟨_, rfl⟩
  rw [hR]
  have Hno : Hid (¬ NeedP x → R = false) := fun h => by rw [← hR]; exact met_no h
  have Hyes : Hid (NeedP x → R = metO (atF l x.key) x) := fun h => by rw [← hR]; exact met_yes h
  have Hop : Hid (NeedP x → 1 ≤ x.op ∧ x.op ≤ 4) := fun h => ⟨h.lo, h.hi⟩
  obtain ⟨A1, c1, rfl, _, _, _, _, _⟩ := els_of Label.row_length h1
  obtain ⟨key, op, vals⟩ := x
  obtain ⟨A2, c2, rfl, hwf, k2, m2, l2⟩ := Need.opened h2
  simp only at *
  have HH := Lib.hid (fun s w1 (hb : Below w.heap.size w w1) => spec_has vals s _ _ w1 (l2.below hb))
  have HB := Lib.hid (Box.new 30 w [.string key, .int .i64 op, .slice A2 vals.length c2])
  have p0 := HB.out.cell (j := 0) rfl
  have p1 := HB.out.cell (j := 1) rfl
  have p2 := HB.out.cell (j := 2) rfl
  clear h1 h2 l2 hR hwf k2 m2 hw
  by_cases hP : NeedP ⟨key, op, vals⟩
  case neg =>
    have Hf := Lib.hid (Hno.out hP)
    have HN1 := Lib.hid (HN.out _ HB.out.1)
    rw [yes_f hP] at HN1
    clear hP Hno Hyes Hop HH HA HN
    go_enter Tryd.func21, Tryd.ntmps21
    go_wp2_with fail
    refine HN1.out.mono ?_
    rintro e x1 ⟨rfl, hb1⟩
    have B1 := Lib.hid (HB.out.below hb1)
    clear hb1
    go_wp2_with fail
    go_ret
    exact ⟨by rw [Hf.out]; rfl, B1.out.1⟩
  have HN1 := Lib.hid (HN.out _ HB.out.1)
  rw [yes_t hP] at HN1
  obtain ⟨ho1, ho4⟩ := Hop.out hP
  have Hf := Lib.hid (Hyes.out hP)
  clear hP Hno Hyes Hop HN
  have hcases : op = 1 ∨ op = 2 ∨ op = 3 ∨ op = 4 := by omega
  cases ha : atF l key with
  | none =>
    rw [ha] at Hf HA
    unfold twoS at HA
    clear ha HH
    rcases hcases with rfl | rfl | rfl | rfl <;>
    · go_enter Tryd.func21, Tryd.ntmps21
      go_wp2_with fail
      refine HN1.out.mono ?_
      rintro e x1 ⟨rfl, hb1⟩
      have B1 := Lib.hid (HB.out.below hb1)
      have p0 := B1.out.cell (j := 0) rfl
      have p1 := B1.out.cell (j := 1) rfl
      clear hb1
      go_wp2_with fail
      refine (HA.out _ B1.out.1).mono ?_
      rintro e x2 ⟨rfl, n2, rfl⟩
      go_wp2_with fail
      go_ret
      exact ⟨by rw [Hf.out]; rfl, below_drewN B1.out.1 n2⟩
  | some v =>
    rw [ha] at Hf HA
    unfold twoS at HA
    clear ha
    have HH2 := Lib.hid (fun w1 hb => HH.out v w1 hb)
    unfold metO at Hf
    simp only at Hf
    generalize yes (v ∈ vals) = b at Hf HH2
    clear HH
    rcases hcases with rfl | rfl | rfl | rfl
    · go_enter Tryd.func21, Tryd.ntmps21
      go_wp2_with fail
      refine HN1.out.mono ?_
      rintro e x1 ⟨rfl, hb1⟩
      have B1 := Lib.hid (HB.out.below hb1)
      have p0 := B1.out.cell (j := 0) rfl
      have p1 := B1.out.cell (j := 1) rfl
      have p2 := B1.out.cell (j := 2) rfl
      clear hb1
      go_wp2_with fail
      refine (HA.out _ B1.out.1).mono ?_
      rintro e x2 ⟨rfl, n2, rfl⟩
      go_wp2_with fail
      refine (HH2.out _ (below_drewN B1.out.1 n2)).mono ?_
      rintro e x3 ⟨rfl, rfl⟩
      cases b <;>
      · go_wp2_with fail
        go_ret
        exact ⟨by rw [Hf.out]; rfl, below_drewN B1.out.1 n2⟩
    · go_enter Tryd.func21, Tryd.ntmps21
      go_wp2_with fail
      refine HN1.out.mono ?_
      rintro e x1 ⟨rfl, hb1⟩
      have B1 := Lib.hid (HB.out.below hb1)
      have p0 := B1.out.cell (j := 0) rfl
      have p1 := B1.out.cell (j := 1) rfl
      have p2 := B1.out.cell (j := 2) rfl
      clear hb1
      go_wp2_with fail
      refine (HA.out _ B1.out.1).mono ?_
      rintro e x2 ⟨rfl, n2, rfl⟩
      go_wp2_with fail
      refine (HH2.out _ (below_drewN B1.out.1 n2)).mono ?_
      rintro e x3 ⟨rfl, rfl⟩
      cases b <;>
      · go_wp2_with fail
        go_ret
        exact ⟨by rw [Hf.out]; rfl, below_drewN B1.out.1 n2⟩
    · go_enter Tryd.func21, Tryd.ntmps21
      go_wp2_with fail
      refine HN1.out.mono ?_
      rintro e x1 ⟨rfl, hb1⟩
      have B1 := Lib.hid (HB.out.below hb1)
      have p0 := B1.out.cell (j := 0) rfl
      have p1 := B1.out.cell (j := 1) rfl
      clear hb1
      go_wp2_with fail
      refine (HA.out _ B1.out.1).mono ?_
      rintro e x2 ⟨rfl, n2, rfl⟩
      go_wp2_with fail
      go_ret
      exact ⟨by rw [Hf.out]; rfl, below_drewN B1.out.1 n2⟩
    · go_enter Tryd.func21, Tryd.ntmps21
      go_wp2_with fail
      refine HN1.out.mono ?_
      rintro e x1 ⟨rfl, hb1⟩
      have B1 := Lib.hid (HB.out.below hb1)
      have p0 := B1.out.cell (j := 0) rfl
      have p1 := B1.out.cell (j := 1) rfl
      clear hb1
      go_wp2_with fail
      refine (HA.out _ B1.out.1).mono ?_
      rintro e x2 ⟨rfl, n2, rfl⟩
      go_wp2_with fail
      go_ret
      exact ⟨by rw [Hf.out]; rfl, below_drewN B1.out.1 n2⟩
end Go.Proofs.YtjcfaepklakpkaaDoor.need
