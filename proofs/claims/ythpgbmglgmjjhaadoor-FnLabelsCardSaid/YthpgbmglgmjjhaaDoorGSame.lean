/- Merged: SameLI SameLL. -/
import Derived.Test.YthpgbmglgmjjhaaDoorDrewM
import Derived.Test.YthpgbmglgmjjhaaDoorGLabM
namespace Go.Proofs.YthpgbmglgmjjhaaDoor.lab
open Go.ChangeShapes Go.WideShapes Go.ChangeAt Go.RowKit ty
set_option linter.unusedVariables false

set_option maxRecDepth 100000 in
set_option maxHeartbeats 8000000 in
theorem impl_eq (a b : List Label) (f1 f2 : Nat) (v1 v2 : Value) (w : World) (h1 : Lies w f1 v1 (.sl 2 a.length (a.flatMap Label.row))) (h2 : Lies w f2 v2 (.sl 2 b.length (b.flatMap Label.row))) :
    Calls Tryd.prog 38 #[v1, v2] w fun e w' => e = .returned (.bool (yes (SameP a b))) ∧ ∃ n, w' = w.drewN n := by
  obtain ⟨A1, c1, rfl, hc1, hm1, f', rfl, hk1⟩ := els_of Label.row_length h1
  obtain ⟨A2, c2, rfl, hc2, hm2, f'', rfl, hk2⟩ := els_of Label.row_length h2
  unfold maxLen at hm1 hm2
  obtain ⟨R, hR⟩ : ∃ R, yes (SameP a b) = R := ⟨_, rfl⟩
  rw [hR]
  have Hno : Hid (¬ SameP a b → R = false) := fun h => by rw [← hR]; exact yes_f h
  have Hyes : Hid (SameP a b → R = true) := fun h => by rw [← hR]; exact yes_t h
  have Hk1 := Lib.hid hk1
  have Hk2 := Lib.hid hk2
  clear h1 h2 hk1 hk2 hR
  by_cases hl : a.length = b.length
  case neg =>
    have Hf := Lib.hid (Hno.out fun h => hl h.1)
    have hn : ((a.length : Int) != (b.length : Int)) = true := bne_iff_ne.2 (by omega)
    clear hl Hno Hyes
    go_enter Tryd.func38, Tryd.ntmps38
    go_wp2_with fail
    go_ret
    exact ⟨by rw [Hf.out]; rfl, 0, rfl⟩
  obtain ⟨n, hn⟩ : ∃ n, n = a.length := ⟨_, rfl⟩
  have hb : b.length = n := by omega
  rw [← hn] at hc1
  rw [hb] at hc2
  rw [← hn, hb]
  have Hn := Lib.hid hn
  have Hb := Lib.hid hb
  clear hn hb hl
  go_enter Tryd.func38, Tryd.ntmps38
  go_wp2_with fail
  go_loopw [13] (fun i wr => ∃ j : Nat, j ≤ n ∧ i = .int .i64 j ∧ Hid (SameTo a b j) ∧ ∃ n, wr = w.drewN n) (fun i _ => n - (intOf i).toNat)
  case atStart => exact ⟨0, Nat.zero_le _, rfl, fun i _ _ h => by omega, 0, rfl⟩
  case round =>
    obtain ⟨j, hj, rfl, hall, n0, hwr⟩ := hrel
    have Hw : Hid (∃ n, wr = w.drewN n) := ⟨n0, hwr⟩
    by_cases hlt : j < n
    · have hla : j < a.length := by rw [← Hn.out]; exact hlt
      have hlb : j < b.length := by rw [Hb.out]; exact hlt
      obtain ⟨g1, o1, hA1, hg1, us1, hus1, hcc1, hls1⟩ := Hk1.out.get hla
      obtain ⟨g2, o2, hA2, hg2, us2, hus2, hcc2, hls2⟩ := Hk2.out.get hlb
      obtain ⟨rfl, hwf1⟩ := Label.opened hls1
      obtain ⟨rfl, hwf2⟩ := Label.opened hls2
      have q0 : wr.cell? ⟨g1, o1 + j * 2, none⟩ = some (.string a[j].key) := by rw [hwr]; exact hcc1 0 _ rfl
      have q1 : wr.cell? ⟨g1, o1 + j * 2 + 1, none⟩ = some (.string a[j].value) := by rw [hwr]; exact hcc1 1 _ rfl
      have r0 : wr.cell? ⟨g2, o2 + j * 2, none⟩ = some (.string b[j].key) := by rw [hwr]; exact hcc2 0 _ rfl
      have r1 : wr.cell? ⟨g2, o2 + j * 2 + 1, none⟩ = some (.string b[j].value) := by rw [hwr]; exact hcc2 1 _ rfl
      subst hA1 hA2
      by_cases he : a[j].key = b[j].key
      · have hs := same_yes he
        by_cases he2 : a[j].value = b[j].value
        · have hs2 := same_yes he2
          have Hnx : Hid (SameTo a b (j + 1)) := fun i i1 i2 h => by
            by_cases e : i = j
            · subst e; exact ⟨he, he2⟩
            · exact hall.out i i1 i2 (by omega)
          clear he he2 Hno Hyes hall hls1 hls2 hus1 hus2 hcc1 hcc2 hwf1 hwf2 hwr hg1 hg2
          generalize a[j].key = x1 at q0 hs
          generalize a[j].value = x2 at q1 hs2
          generalize b[j].key = y1 at r0 hs
          generalize b[j].value = y2 at r1 hs2
          go_wp2_with fail
          go_quiet (fail)
          go_wp2_with fail
          go_roundw
          case rel => exact ⟨j + 1, by omega, by go_num, Hnx.out, drew_of Hw.out _⟩
          case measure => simp [intOf]; omega
        · have Hf := Lib.hid (Hno.out fun h => he2 (h.2 j hla hlb hla).2)
          have hs2 := same_no he2
          clear he he2 Hno Hyes hall hls1 hls2 hus1 hus2 hcc1 hcc2 hwf1 hwf2 hwr hg1 hg2
          generalize a[j].key = x1 at q0 hs
          generalize a[j].value = x2 at q1 hs2
          generalize b[j].key = y1 at r0 hs
          generalize b[j].value = y2 at r1 hs2
          go_wp2_with fail
          go_quiet (fail)
          go_wp2_with fail
          go_ret
          exact ⟨by rw [Hf.out]; rfl, drew_of Hw.out _⟩
      · have Hf := Lib.hid (Hno.out fun h => he (h.2 j hla hlb hla).1)
        have hs := same_no he
        clear he Hno Hyes hall hls1 hls2 hus1 hus2 hcc1 hcc2 hwf1 hwf2 hwr hg1 hg2
        generalize a[j].key = x1 at q0 hs
        generalize a[j].value = x2 at q1
        generalize b[j].key = y1 at r0 hs
        generalize b[j].value = y2 at r1
        go_wp2_with fail
        go_quiet (fail)
        go_wp2_with fail
        go_ret
        exact ⟨by rw [Hf.out]; rfl, drew_of Hw.out _⟩
    · obtain rfl : j = n := by omega
      have Hf : Hid (R = true) := Hyes.out ⟨by rw [Hb.out, Hn.out], by rw [← Hn.out]; exact hall.out⟩
      clear hall hwr
      go_wp2_with fail
      go_ret
      exact ⟨by rw [Hf.out]; rfl, Hw.out⟩
set_option maxRecDepth 100000 in
theorem impl_same (a b : List Label) (f1 f2 : Nat) (v1 v2 : Value) (w : World) (h1 : Lies w f1 v1 (.sl 2 a.length (a.flatMap Label.row))) (h2 : Lies w f2 v2 (.sl 2 b.length (b.flatMap Label.row))) :
    Calls Tryd.prog 18 #[v1, v2] w fun e w' => e = .returned (.bool (yes (SameP a b))) ∧ Below w.heap.size w w' := by
  have H := Lib.hid (impl_eq a b f1 f2 v1 v2 w h1 h2)
  clear h1 h2
  go_enter Tryd.func18, Tryd.ntmps18
  go_wp2_with fail
  refine H.out.mono ?_
  rintro e w1 ⟨rfl, n, rfl⟩
  go_wp2_with fail
  go_ret
  exact ⟨rfl, below_drewN (Below.refl _ _) n⟩
end Go.Proofs.YthpgbmglgmjjhaaDoor.lab
namespace Go.Proofs.YthpgbmglgmjjhaaDoor.lab
open Go.ChangeShapes Go.WideShapes Go.ChangeAt Go.RowKit ty
set_option linter.unusedVariables false

set_option maxRecDepth 100000 in
set_option maxHeartbeats 8000000 in
theorem law_same (a b : List Label) (f1 f2 : Nat) (v1 v2 : Value) (w : World) (h1 : Lies w f1 v1 (.sl 2 a.length (a.flatMap Label.row))) (h2 : Lies w f2 v2 (.sl 2 b.length (b.flatMap Label.row))) :
    Calls Tryd.prog 12 #[v1, v2] w fun e w' => e = .returned (.bool (yes (SameP a b))) ∧ ∃ n, w' = w.drewN n := by
  obtain ⟨A1, c1, rfl, hc1, hm1, f', rfl, hk1⟩ := els_of Label.row_length h1
  obtain ⟨A2, c2, rfl, hc2, hm2, f'', rfl, hk2⟩ := els_of Label.row_length h2
  unfold maxLen at hm1 hm2
  obtain ⟨R, hR⟩ : ∃ R, yes (SameP a b) = R := ⟨_, rfl⟩
  rw [hR]
  have Hno : Hid (¬ SameP a b → R = false) := fun h => by rw [← hR]; exact yes_f h
  have Hyes : Hid (SameP a b → R = true) := fun h => by rw [← hR]; exact yes_t h
  have Hk1 := Lib.hid hk1
  have Hk2 := Lib.hid hk2
  clear h1 h2 hk1 hk2 hR
  by_cases hl : a.length = b.length
  case neg =>
    have Hf := Lib.hid (Hno.out fun h => hl h.1)
    have hn : ((a.length : Int) != (b.length : Int)) = true := bne_iff_ne.2 (by omega)
    clear hl Hno Hyes
    go_enter Tryd.func12, Tryd.ntmps12
    go_wp2_with fail
    go_ret
    exact ⟨by rw [Hf.out]; rfl, 0, rfl⟩
  obtain ⟨n, hn⟩ : ∃ n, n = a.length := ⟨_, rfl⟩
  have hb : b.length = n := by omega
  rw [← hn] at hc1
  rw [hb] at hc2
  rw [← hn, hb]
  have Hn := Lib.hid hn
  have Hb := Lib.hid hb
  clear hn hb hl
  go_enter Tryd.func12, Tryd.ntmps12
  go_wp2_with fail
  go_loopw [5] (fun i wr => ∃ j : Nat, j ≤ n ∧ i = .int .i64 j ∧ Hid (SameTo a b j) ∧ ∃ n, wr = w.drewN n) (fun i _ => n - (intOf i).toNat)
  case atStart => exact ⟨0, Nat.zero_le _, rfl, fun i _ _ h => by omega, 0, rfl⟩
  case round =>
    obtain ⟨j, hj, rfl, hall, n0, hwr⟩ := hrel
    have Hw : Hid (∃ n, wr = w.drewN n) := ⟨n0, hwr⟩
    by_cases hlt : j < n
    · have hla : j < a.length := by rw [← Hn.out]; exact hlt
      have hlb : j < b.length := by rw [Hb.out]; exact hlt
      obtain ⟨g1, o1, hA1, hg1, us1, hus1, hcc1, hls1⟩ := Hk1.out.get hla
      obtain ⟨g2, o2, hA2, hg2, us2, hus2, hcc2, hls2⟩ := Hk2.out.get hlb
      obtain ⟨rfl, hwf1⟩ := Label.opened hls1
      obtain ⟨rfl, hwf2⟩ := Label.opened hls2
      have q0 : wr.cell? ⟨g1, o1 + j * 2, none⟩ = some (.string a[j].key) := by rw [hwr]; exact hcc1 0 _ rfl
      have q1 : wr.cell? ⟨g1, o1 + j * 2 + 1, none⟩ = some (.string a[j].value) := by rw [hwr]; exact hcc1 1 _ rfl
      have r0 : wr.cell? ⟨g2, o2 + j * 2, none⟩ = some (.string b[j].key) := by rw [hwr]; exact hcc2 0 _ rfl
      have r1 : wr.cell? ⟨g2, o2 + j * 2 + 1, none⟩ = some (.string b[j].value) := by rw [hwr]; exact hcc2 1 _ rfl
      subst hA1 hA2
      by_cases he : a[j].key = b[j].key
      · have hs := same_yes he
        by_cases he2 : a[j].value = b[j].value
        · have hs2 := same_yes he2
          have Hnx : Hid (SameTo a b (j + 1)) := fun i i1 i2 h => by
            by_cases e : i = j
            · subst e; exact ⟨he, he2⟩
            · exact hall.out i i1 i2 (by omega)
          clear he he2 Hno Hyes hall hls1 hls2 hus1 hus2 hcc1 hcc2 hwf1 hwf2 hwr hg1 hg2
          generalize a[j].key = x1 at q0 hs
          generalize a[j].value = x2 at q1 hs2
          generalize b[j].key = y1 at r0 hs
          generalize b[j].value = y2 at r1 hs2
          go_wp2_with fail
          go_quiet (fail)
          go_wp2_with fail
          go_roundw
          case rel => exact ⟨j + 1, by omega, by go_num, Hnx.out, drew_of Hw.out _⟩
          case measure => simp [intOf]; omega
        · have Hf := Lib.hid (Hno.out fun h => he2 (h.2 j hla hlb hla).2)
          have hs2 := same_no he2
          clear he he2 Hno Hyes hall hls1 hls2 hus1 hus2 hcc1 hcc2 hwf1 hwf2 hwr hg1 hg2
          generalize a[j].key = x1 at q0 hs
          generalize a[j].value = x2 at q1 hs2
          generalize b[j].key = y1 at r0 hs
          generalize b[j].value = y2 at r1 hs2
          go_wp2_with fail
          go_quiet (fail)
          go_wp2_with fail
          go_ret
          exact ⟨by rw [Hf.out]; rfl, drew_of Hw.out _⟩
      · have Hf := Lib.hid (Hno.out fun h => he (h.2 j hla hlb hla).1)
        have hs := same_no he
        clear he Hno Hyes hall hls1 hls2 hus1 hus2 hcc1 hcc2 hwf1 hwf2 hwr hg1 hg2
        generalize a[j].key = x1 at q0 hs
        generalize a[j].value = x2 at q1
        generalize b[j].key = y1 at r0 hs
        generalize b[j].value = y2 at r1
        go_wp2_with fail
        go_quiet (fail)
        go_wp2_with fail
        go_ret
        exact ⟨by rw [Hf.out]; rfl, drew_of Hw.out _⟩
    · obtain rfl : j = n := by omega
      have Hf : Hid (R = true) := Hyes.out ⟨by rw [Hb.out, Hn.out], by rw [← Hn.out]; exact hall.out⟩
      clear hall hwr
      go_wp2_with fail
      go_ret
      exact ⟨by rw [Hf.out]; rfl, Hw.out⟩
end Go.Proofs.YthpgbmglgmjjhaaDoor.lab
