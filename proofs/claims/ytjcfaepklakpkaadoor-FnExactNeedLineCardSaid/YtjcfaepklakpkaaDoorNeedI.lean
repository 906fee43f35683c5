/- impl.NeedOk. -/
import Derived.Test.YtjcfaepklakpkaaDoorAscV
namespace Go.Proofs.YtjcfaepklakpkaaDoor.need
open Go.ChangeShapes Go.WideShapes Go.ChangeAt Go.RowKit ty lab
set_option linter.unusedVariables false

set_option maxRecDepth 100000 in
set_option maxHeartbeats 16000000 in
theorem impl_need (x : Need) (f : Nat) (vs : List Value) (w : World) (h : LiesS w f vs x.row) (hw : x.wt ≤ 1048576) :
    Calls Tryd.prog 16 #[.agg vs.toArray] w fun e w' => e = .returned (.bool (yes (NeedP x))) ∧ Below w.heap.size w w' := by
  have hk1 := wt_key x
  have hv1 := wt_vals x
  obtain ⟨key, op, vals⟩ := x
  obtain ⟨A2, c2, rfl, hwf, k2, m2, l2⟩ := Need.opened h
  simp only [Need.Wf] at *
  obtain ⟨w0, w1⟩ := hwf
  obtain ⟨R, hR⟩ : ∃ R, yes (NeedP ⟨key, op, vals⟩) = R := ⟨_, rfl⟩
  rw [hR]
  have Hno : Hid (¬ NeedP ⟨key, op, vals⟩ → R = false) := fun h => by rw [← hR]; exact yes_f h
  have Hyes : Hid (NeedP ⟨key, op, vals⟩ → R = true) := fun h => by rw [← hR]; exact yes_t h
  have HB := Lib.hid (Box.new 30 w [.string key, .int .i64 op, .slice A2 vals.length c2])
  have HK := Lib.hid (fun w => impl_key key w (by omega))
  have HA := Lib.hid (fun w' (hb : Below w.heap.size w w') => impl_ascV vals f _ w' (l2.below hb))
  have hvn : vals.length ≤ 1048576 := by omega
  unfold maxLen at m2
  have p0 := HB.out.cell (j := 0) rfl
  clear h l2 hR w0 hk1 hv1 hw
  by_cases hK : KeyP key
  case neg =>
    have Hf := Lib.hid (Hno.out fun h => hK h.key)
    rw [yes_f hK] at HK
    clear hK Hno Hyes HA
    go_enter Tryd.func16, Tryd.ntmps16
    go_wp2_with fail
    refine (HK.out _).mono ?_
    rintro e x1 ⟨rfl, hb⟩
    have B1 := Lib.hid (HB.out.below hb)
    clear hb
    go_wp2_with fail
    go_ret
    exact ⟨by rw [Hf.out]; rfl, B1.out.1⟩
  rw [yes_t hK] at HK
  by_cases h3 : op = 3 ∨ op = 4
  · by_cases hn : vals.length = 0
    · have Hf := Lib.hid (Hyes.out ⟨hK, by simp only; omega, by simp only; omega, fun _ => hn, fun h => by simp only at h; omega⟩)
      have en : ((vals.length : Int) == 0) = true := by rw [hn]; rfl
      clear hK Hno Hyes HA hn
      rcases h3 with rfl | rfl <;>
      · go_enter Tryd.func16, Tryd.ntmps16
        go_wp2_with fail
        refine (HK.out _).mono ?_
        rintro e x1 ⟨rfl, hb⟩
        have B1 := Lib.hid (HB.out.below hb)
        have p1 := B1.out.cell (j := 1) rfl
        have p2 := B1.out.cell (j := 2) rfl
        clear hb
        go_wp2_with fail
        go_ret
        exact ⟨by rw [Hf.out]; rfl, B1.out.1⟩
    · have Hf := Lib.hid (Hno.out fun h => hn (h.none (by simp only; omega)))
      have en : ((vals.length : Int) == 0) = false := by rw [beq_eq_false_iff_ne]; omega
      clear hK Hno Hyes HA hn
      rcases h3 with rfl | rfl <;>
      · go_enter Tryd.func16, Tryd.ntmps16
        go_wp2_with fail
        refine (HK.out _).mono ?_
        rintro e x1 ⟨rfl, hb⟩
        have B1 := Lib.hid (HB.out.below hb)
        have p1 := B1.out.cell (j := 1) rfl
        have p2 := B1.out.cell (j := 2) rfl
        clear hb
        go_wp2_with fail
        go_ret
        exact ⟨by rw [Hf.out]; rfl, B1.out.1⟩
  by_cases h2 : op = 1 ∨ op = 2
  case neg =>
    have Hf := Lib.hid (Hno.out fun h => by have := h.lo; have := h.hi; simp only at *; omega)
    have e1 : (op == 1) = false := by rw [beq_eq_false_iff_ne]; omega
    have e2 : (op == 2) = false := by rw [beq_eq_false_iff_ne]; omega
    have e3 : (op == 3) = false := by rw [beq_eq_false_iff_ne]; omega
    have e4 : (op == 4) = false := by rw [beq_eq_false_iff_ne]; omega
    clear hK Hno Hyes HA h3 h2
    go_enter Tryd.func16, Tryd.ntmps16
    go_wp2_with fail
    refine (HK.out _).mono ?_
    rintro e x1 ⟨rfl, hb⟩
    have B1 := Lib.hid (HB.out.below hb)
    have p1 := B1.out.cell (j := 1) rfl
    clear hb
    go_wp2_with fail
    go_ret
    exact ⟨by rw [Hf.out]; rfl, B1.out.1⟩
  by_cases hn0 : vals.length = 0
  · have Hf := Lib.hid (Hno.out fun h => by have := (h.some (by simp only; omega)).1; simp only at this; omega)
    have g0 : ¬ (0 : Int) < (vals.length : Int) := by omega
    have g1 : ¬ 0 < vals.length := by omega
    clear hK Hno Hyes HA h3 hn0
    rcases h2 with rfl | rfl <;>
    · go_enter Tryd.func16, Tryd.ntmps16
      go_wp2_with fail
      refine (HK.out _).mono ?_
      rintro e x1 ⟨rfl, hb⟩
      have B1 := Lib.hid (HB.out.below hb)
      have p1 := B1.out.cell (j := 1) rfl
      have p2 := B1.out.cell (j := 2) rfl
      clear hb
      go_wp2_with fail
      go_ret
      exact ⟨by rw [Hf.out]; rfl, B1.out.1⟩
  have g0 : (0 : Int) < (vals.length : Int) := by omega
  have g1 : 0 < vals.length := by omega
  by_cases hn4 : vals.length ≤ 4
  case neg =>
    have Hf := Lib.hid (Hno.out fun h => by have := (h.some (by simp only; omega)).2.1; simp only at this; omega)
    have g2 : ¬ (vals.length : Int) ≤ 4 := by omega
    clear hK Hno Hyes HA h3 hn0
    rcases h2 with rfl | rfl <;>
    · go_enter Tryd.func16, Tryd.ntmps16
      go_wp2_with fail
      refine (HK.out _).mono ?_
      rintro e x1 ⟨rfl, hb⟩
      have B1 := Lib.hid (HB.out.below hb)
      have p1 := B1.out.cell (j := 1) rfl
      have p2 := B1.out.cell (j := 2) rfl
      clear hb
      go_wp2_with fail
      go_ret
      exact ⟨by rw [Hf.out]; rfl, B1.out.1⟩
  have g2 : (vals.length : Int) ≤ 4 := by omega
  have Hf : Hid (R = yes (GoodV vals vals.length)) := by
    by_cases hg : GoodV vals vals.length
    · rw [yes_t hg]
      exact Hyes.out ⟨hK, by simp only; omega, by simp only; omega, fun h => by simp only at h; omega, fun _ => ⟨by simp only; omega, by simp only; omega, hg⟩⟩
    · rw [yes_f hg]
      exact Hno.out fun h => hg (h.some (by simp only; omega)).2.2
  clear hK Hno Hyes h3 hn0
  generalize yes (GoodV vals vals.length) = b at Hf HA
  rcases h2 with rfl | rfl <;>
  · go_enter Tryd.func16, Tryd.ntmps16
    go_wp2_with fail
    refine (HK.out _).mono ?_
    rintro e x1 ⟨rfl, hb⟩
    have B1 := Lib.hid (HB.out.below hb)
    have p1 := B1.out.cell (j := 1) rfl
    have p2 := B1.out.cell (j := 2) rfl
    clear hb
    go_wp2_with fail
    refine (HA.out _ B1.out.1).mono ?_
    rintro e x2 ⟨rfl, hb⟩
    have B2 := Lib.hid (B1.out.below hb)
    clear hb
    go_wp2_with fail
    go_ret
    exact ⟨by rw [Hf.out]; rfl, B2.out.1⟩
end Go.Proofs.YtjcfaepklakpkaaDoor.need
