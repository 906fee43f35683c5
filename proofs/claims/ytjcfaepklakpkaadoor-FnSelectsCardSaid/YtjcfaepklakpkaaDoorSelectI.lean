/- impl.eachPasses at a method expression, impl.Selects. -/
import Derived.Test.YtjcfaepklakpkaaDoorMetI
import Derived.Test.YtjcfaepklakpkaaDoorGNS
namespace Go.Proofs.YtjcfaepklakpkaaDoor.need
open Go.ChangeShapes Go.WideShapes Go.ChangeAt Go.RowKit ty lab
set_option linter.unusedVariables false

set_option maxRecDepth 100000 in
set_option maxHeartbeats 16000000 in
theorem each_pass (l : List Need) (labs : List Label) (f1 f2 : Nat) (v1 v2 : Value) (w : World) (h : Lies w f1 v1 (.sl 3 l.length (l.flatMap Need.row))) (h2 : Lies w f2 v2 (.sl 2 labs.length (labs.flatMap Label.row))) (hw : ∀ j (h : j < l.length), l[j].wt ≤ 1048576) :
    Calls Tryd.prog 39 #[v1, v2, .func (.func 38) #[] #[]] w fun e w' => e = .returned (.bool (selF l labs)) ∧ Below w.heap.size w w' := by
  obtain ⟨A, c, rfl, hc1, hc2, f', rfl, hk⟩ := els_of Need.row_length h
  unfold maxLen at hc2
  obtain ⟨R, hR⟩ : ∃ R, selF l labs = R := ⟨_, rfl⟩
  rw [hR]
  have Hno : Hid (∀ k (h : k < l.length), metF labs l[k] = false → R = false) := fun k h h2 => by rw [← hR]; exact sel_no h h2
  have Hyes : Hid ((∀ k (hk : k < l.length), metF labs l[k] = true) → R = true) := fun h => by rw [← hR]; exact sel_yes h
  have Hwt := Lib.hid hw
  have Hk := Lib.hid hk
  have HL := Lib.hid (fun w1 (hb : Below w.heap.size w w1) => h2.below hb)
  obtain ⟨A1, c1, rfl, _, _, _, _, _⟩ := els_of Label.row_length h2
  clear h hk hR hw h2
  go_enter Tryd.func39, Tryd.ntmps39
  go_wp2_with fail
  go_loopw [11] (fun i wr => ∃ j : Nat, j ≤ l.length ∧ i = .int .i64 j ∧ Hid (∀ k (hk : k < l.length), k < j → metF labs l[k] = true) ∧ Below w.heap.size w wr) (fun i _ => l.length - (intOf i).toNat)
  case atStart => exact ⟨0, Nat.zero_le _, rfl, fun i hi hj => by omega, Below.refl _ _⟩
  case round =>
    obtain ⟨j, hj, rfl, hall, hbel⟩ := hrel
    have Hbel := Lib.hid hbel
    by_cases hlt : j < l.length
    · obtain ⟨g, o, A2, c2, rfl, q0, q1, q2, hls⟩ := el_at Hk.out hbel hlt
      have HB := Lib.hid (Box.new 30 wr [.string l[j].key, .int .i64 l[j].op, .slice A2 l[j].values.length c2])
      have HM := Lib.hid (fun w' (hb : Below wr.heap.size wr w') => met_by labs l[j] f2 f' _ _ w' (HL.out _ (below_link hbel hb hbel.size)) (hls ⟨w', hb⟩) (Hwt.out j hlt))
      have q0 := q0 ⟨wr, Below.refl _ _⟩
      have q1 := q1 ⟨wr, Below.refl _ _⟩
      have q2 := q2 ⟨wr, Below.refl _ _⟩
      simp only at q0 q1 q2
      have p0 := HB.out.cell (j := 0) rfl
      have p1 := HB.out.cell (j := 1) rfl
      have p2 := HB.out.cell (j := 2) rfl
      cases hm : metF labs l[j] with
      | true =>
        have Hn : Hid (∀ k (hk : k < l.length), k < j + 1 → metF labs l[k] = true) := fun k hk hkj => by
          by_cases e : k = j
          · subst e; exact hm
          · exact hall.out k hk (by omega)
        rw [hm] at HM
        clear hm Hno Hyes hall hls Hwt Hk hbel
        generalize l[j] = x at *
        go_wp2_with fail
        refine (HM.out _ HB.out.1).mono ?_
        rintro e x1 ⟨rfl, hb⟩
        have G := Lib.hid (below_link Hbel.out (HB.out.1.trans (hb.mono HB.out.1.size)) Hbel.out.size)
        clear hb
        go_wp2_with fail
        go_roundw
        case rel => exact ⟨j + 1, by omega, by go_num, Hn.out, G.out⟩
        case measure => simp [intOf]; omega
      | false =>
        have Hf := Lib.hid (Hno.out j hlt hm)
        rw [hm] at HM
        clear hm Hno Hyes hall hls Hwt Hk hbel
        generalize l[j] = x at *
        go_wp2_with fail
        refine (HM.out _ HB.out.1).mono ?_
        rintro e x1 ⟨rfl, hb⟩
        have G := Lib.hid (below_link Hbel.out (HB.out.1.trans (hb.mono HB.out.1.size)) Hbel.out.size)
        clear hb
        go_wp2_with fail
        go_ret
        exact ⟨by rw [Hf.out]; rfl, G.out⟩
    · obtain rfl : j = l.length := by omega
      have Hf := Lib.hid (Hyes.out fun k hk => hall.out k hk hk)
      clear hall hbel
      go_wp2_with fail
      go_ret
      exact ⟨by rw [Hf.out]; rfl, Hbel.out⟩
set_option maxRecDepth 100000 in
theorem impl_selects (l : List Need) (labs : List Label) (f1 f2 : Nat) (v1 v2 : Value) (w : World) (h : Lies w f1 v1 (.sl 3 l.length (l.flatMap Need.row))) (h2 : Lies w f2 v2 (.sl 2 labs.length (labs.flatMap Label.row))) (hw : l.length + wsum Need.wt l ≤ 1048576) :
    Calls Tryd.prog 14 #[v1, v2] w fun e w' => e = .returned (.bool (selF l labs)) ∧ Below w.heap.size w w' := by
  have H := Lib.hid (each_pass l labs f1 f2 v1 v2 w h h2 (fun j hj => by have := wsum_mem Need.wt hj; omega))
  clear h h2 hw
  generalize selF l labs = R at H
  go_enter Tryd.func14, Tryd.ntmps14
  go_wp2_with fail
  refine H.out.mono ?_
  rintro e w1 ⟨rfl, hb⟩
  go_wp2_with fail
  go_ret
  exact ⟨rfl, hb⟩
end Go.Proofs.YtjcfaepklakpkaaDoor.need
