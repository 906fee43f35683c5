/- spec.LabelsLine. -/
import Derived.Test.YthpgbmglgmjjhaaDoorLabS
import Derived.Test.YthpgbmglgmjjhaaDoorGLabM
import Derived.Test.YthpgbmglgmjjhaaDoorGRdP
namespace Go.Proofs.YthpgbmglgmjjhaaDoor.lab
open Go.ChangeShapes Go.WideShapes Go.ChangeAt Go.RowKit ty
set_option linter.unusedVariables false

set_option maxRecDepth 100000 in
set_option maxHeartbeats 8000000 in
theorem spec_line (l : List Label) (f : Nat) (v : Value) (w : World) (h : Lies w f v (.sl 2 l.length (l.flatMap Label.row))) (hz : Small l) :
    Calls Tryd.prog 25 #[v] w fun e w' => e = .returned (.string (lineF l)) ∧ ∃ n, w' = w.drewN n := by
  have HL := Lib.hid (spec_labels l f v w h hz)
  obtain ⟨A, c, rfl, hc1, hc2, f', rfl, hk⟩ := els_of Label.row_length h
  unfold maxLen at hc2
  by_cases hP : LabelsP l
  case neg =>
    rw [yes_f hP] at HL
    rw [line_no hP]
    clear hP h hk hz
    go_enter Tryd.func25, Tryd.ntmps25
    go_wp2_with fail
    refine HL.out.mono ?_
    rintro e w1 ⟨rfl, n1, rfl⟩
    clear HL
    go_wp2_with fail
    go_ret
    exact ⟨rfl, _, rfl⟩
  rw [yes_t hP] at HL
  cases l with
  | nil =>
    rw [line_nil hP]
    clear hP h hk hz
    go_enter Tryd.func25, Tryd.ntmps25
    go_wp2_with fail
    refine HL.out.mono ?_
    rintro e w1 ⟨rfl, n1, rfl⟩
    clear HL
    go_wp2_with fail
    go_ret
    exact ⟨rfl, _, rfl⟩
  | cons a0 r0 =>
  obtain ⟨l, hl⟩ : ∃ l, a0 :: r0 = l := ⟨_, rfl⟩
  rw [hl] at HL hk hP hc1 ⊢
  have hne : l ≠ [] := by rw [← hl]; simp
  have hpos : 0 < l.length := by rw [← hl]; simp
  have h6 : l.length ≤ 6 := hP.1
  have hz0 : ((l.length : Int) == 0) = false := by rw [beq_eq_false_iff_ne]; omega
  have Hlen := Lib.hid (join_len hP.2 hP.1)
  have Hline := Lib.hid (line_yes hP hne)
  have Hk := Lib.hid hk
  clear hk h hl hne hP hz
  go_enter Tryd.func25, Tryd.ntmps25
  go_wp2_with fail
  refine HL.out.mono ?_
  rintro e w1 ⟨rfl, n1, rfl⟩
  clear HL
  go_wp2_with fail
  go_loopw [3, 4] (fun sv i wr => ∃ (j : Nat) (s : ByteArray), j ≤ l.length ∧ i = .int .i64 j ∧ sv = .string s ∧ Hid (s.data.toList = joinB (l.take j)) ∧ ∃ n, wr = w.drewN n) (fun _ i _ => l.length - (intOf i).toNat)
  case atStart => exact ⟨0, ⟨#[]⟩, Nat.zero_le _, rfl, rfl, by unfold Hid; simp [joinB], _, rfl⟩
  case round =>
    obtain ⟨j, s, hj, rfl, rfl, hs, n0, hwr⟩ := hrel
    have Hw : Hid (∃ n, wr = w.drewN n) := ⟨n0, hwr⟩
    have hsz : s.size ≤ 52 * j := by
      have := Hlen.out j hj
      rw [← hs.out] at this
      exact this
    by_cases hlt : j < l.length
    · obtain ⟨g, o, hA, hg, us, hus, hcc, hls⟩ := Hk.out.get hlt
      obtain ⟨rfl, hwf⟩ := Label.opened hls
      have q0 : wr.cell? ⟨g, o + j * 2, none⟩ = some (.string l[j].key) := by rw [hwr]; exact hcc 0 _ rfl
      have q1 : wr.cell? ⟨g, o + j * 2 + 1, none⟩ = some (.string l[j].value) := by rw [hwr]; exact hcc 1 _ rfl
      have Hm := Lib.hid (line_more hlt hs.out)
      have hl2 := Hlen.out (j + 1) hlt
      rw [← Hm.out] at hl2
      have hks : l[j].key.size ≤ 400 := by
        have := parts_len (if 0 < j then s ++ ⟨#[44]⟩ else s) l[j].key ⟨#[61]⟩ l[j].value
        omega
      have hvs : l[j].value.size ≤ 400 := by
        have := parts_len (if 0 < j then s ++ ⟨#[44]⟩ else s) l[j].key ⟨#[61]⟩ l[j].value
        omega
      subst hA
      clear hs hcc hls hus hwf hwr hl2 hg
      generalize l[j].key = x at q0 Hm hks
      generalize l[j].value = y at q1 Hm hvs
      by_cases h0 : 0 < j
      · rw [if_pos h0] at Hm
        have h0' : (0 : Int) < (j : Int) := by omega
        go_wp2_with fail
        go_quiet (fail)
        go_wp2_with fail
        go_roundw
        case rel => exact ⟨j + 1, _, by omega, by go_num, rfl, Hm.out, drew_of Hw.out _⟩
        case measure => simp [intOf]; omega
      · rw [if_neg h0] at Hm
        have h0' : ¬ (0 : Int) < (j : Int) := by omega
        go_wp2_with fail
        go_quiet (fail)
        go_wp2_with fail
        go_roundw
        case rel => exact ⟨j + 1, _, by omega, by go_num, rfl, Hm.out, drew_of Hw.out _⟩
        case measure => simp [intOf]; omega
    · obtain rfl : j = l.length := by omega
      have Hf : Hid (s = lineF l) := by
        unfold Hid
        rw [Hline.out]
        have := hs.out
        rw [List.take_length] at this
        apply ByteArray.ext
        apply Array.ext'
        rw [this]
      clear hs hwr
      go_wp2_with fail
      go_ret
      exact ⟨by rw [Hf.out]; rfl, Hw.out⟩
end Go.Proofs.YthpgbmglgmjjhaaDoor.lab
