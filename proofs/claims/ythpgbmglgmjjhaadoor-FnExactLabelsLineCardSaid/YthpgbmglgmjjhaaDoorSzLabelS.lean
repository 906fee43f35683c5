/- laws.szLabelS. Printed by gen/gen_ty.py. -/
import Derived.Test.YthpgbmglgmjjhaaDoorSzLabel
namespace Go.Proofs.YthpgbmglgmjjhaaDoor.ty
open Go.ChangeShapes Go.WideShapes Go.ChangeAt Go.RowKit
set_option linter.unusedVariables false

theorem szLabelS (l : List Label) (f : Nat) (v : Value) (left : Int) (w : World) (h : Lies w f v (.sl 2 l.length (l.flatMap Label.row))) (hl : LeftN left) :
    Calls Tryd.prog 19 #[v, .int .i64 left] w fun e w' => e = .returned (.int .i64 (cutN left (l.length + wsum Label.wt l))) ∧ Below w.heap.size w w' := by
  obtain ⟨A, c, rfl, hc1, hc2, f', rfl, hk⟩ := els_of Label.row_length h
  unfold maxLen at hc2
  unfold LeftN at hl
  have Hk := Lib.hid hk
  clear h hk
  by_cases h0 : left < l.length
  · have He := Lib.hid (cutN_no (show left < ((l.length + wsum Label.wt l : Nat) : Int) by omega))
    go_enter Tryd.func19, Tryd.ntmps19
    go_wp2_with fail
    go_ret
    exact ⟨by rw [He.out]; rfl, Below.refl _ _⟩
  go_enter Tryd.func19, Tryd.ntmps19
  go_wp2_with fail
  go_loopw [1, 5] (fun a i wr => ∃ (j : Nat) (z : Int), j ≤ l.length ∧ i = .int .i64 j ∧ a = .int .i64 z ∧ 0 ≤ z ∧ z ≤ 1048576 ∧ Hid (z = left - l.length - wsum Label.wt (l.take j)) ∧ Below w.heap.size w wr) (fun _ i _ => l.length - (intOf i).toNat)
  case atStart => exact ⟨0, left - l.length, Nat.zero_le _, rfl, rfl, by omega, by omega, by unfold Hid; simp [wsum], Below.refl _ _⟩
  case round =>
    obtain ⟨j, z, hj, rfl, rfl, hz0, hz1, hin, hbel⟩ := hrel
    by_cases hlt : j < l.length
    · obtain ⟨g, o, rfl, hg, us, hus, hc, hls⟩ := (Hk.out.below hbel).get hlt
      obtain ⟨rfl, hwf⟩ := Label.opened hls
      have q0 : wr.cell? ⟨g, o + j * 2, none⟩ = some (.string l[j].key) := hc 0 _ rfl
      have q1 : wr.cell? ⟨g, o + j * 2 + 1, none⟩ = some (.string l[j].value) := hc 1 _ rfl
      have HC := Lib.hid (szLabel l[j] z wr hwf ⟨hz0, hz1⟩)
      have hnext := wsum_take Label.wt hlt
      have hall := wsum_all Label.wt l (j + 1)
      have Hbel := Lib.hid hbel
      clear hls hbel hg hus hc hwf
      by_cases h1 : z < (l[j].wt : Int)
      · have He := Lib.hid (cutN_no (show left < ((l.length + wsum Label.wt l : Nat) : Int) by have := hin.out; omega))
        rw [cutN_no h1] at HC
        clear hnext hall hin h1
        generalize l[j] = x at q0 q1 HC
        go_wp2_with fail
        refine HC.out.mono ?_
        rintro e w1 ⟨rfl, hb1⟩
        have Hbel1 := Lib.hid (Hbel.out.trans (hb1.mono Hbel.out.size))
        clear hb1 q0 q1
        go_wp2_with fail
        go_ret
        exact ⟨by rw [He.out]; rfl, Hbel1.out⟩
      · have Hin := Lib.hid (show z - l[j].wt = left - l.length - wsum Label.wt (l.take (j + 1)) by have := hin.out; omega)
        rw [cutN_yes h1] at HC
        clear hnext hall hin
        generalize l[j] = x at q0 q1 HC h1 Hin
        generalize x.wt = y at HC h1 Hin
        go_wp2_with fail
        refine HC.out.mono ?_
        rintro e w1 ⟨rfl, hb1⟩
        have Hbel1 := Lib.hid (Hbel.out.trans (hb1.mono Hbel.out.size))
        clear hb1 q0 q1
        go_wp2_with fail
        go_roundw
        case rel => exact ⟨j + 1, z - y, by omega, by go_num, rfl, by omega, by omega, Hin.out, Hbel1.out⟩
        case measure => simp [intOf]; omega
    · obtain rfl : j = l.length := by omega
      rw [List.take_of_length_le (Nat.le_refl _)] at hin
      have He := Lib.hid (cutN_yes (show ¬ left < ((l.length + wsum Label.wt l : Nat) : Int) by have := hin.out; omega))
      have Hin := Lib.hid (show left - ((l.length + wsum Label.wt l : Nat) : Int) = z by have := hin.out; omega)
      have Hbel := Lib.hid hbel
      clear hin hbel
      go_wp2_with fail
      go_ret
      exact ⟨by rw [He.out, Hin.out]; rfl, Hbel.out⟩
end Go.Proofs.YthpgbmglgmjjhaaDoor.ty
