/- spec.LabelsOk. -/
import Derived.Test.YthpgbmglgmjjhaaDoorWdS
import Derived.Test.YthpgbmglgmjjhaaDoorGLabM
import Derived.Laws.Cover1
namespace Go.Proofs.YthpgbmglgmjjhaaDoor.lab
open Go.ChangeShapes Go.WideShapes Go.ChangeAt Go.RowKit ty
set_option linter.unusedVariables false

set_option maxRecDepth 100000 in
set_option maxHeartbeats 8000000 in
theorem spec_labels (l : List Label) (f : Nat) (v : Value) (w : World) (h : Lies w f v (.sl 2 l.length (l.flatMap Label.row))) (hz : Small l) :
    Calls Tryd.prog 20 #[v] w fun e w' => e = .returned (.bool (yes (LabelsP l))) ∧ ∃ n, w' = w.drewN n := by
  obtain ⟨A, c, rfl, hc1, hc2, f', rfl, hk⟩ := els_of Label.row_length h
  unfold maxLen at hc2
  obtain ⟨R, hR⟩ : ∃ R, yes (LabelsP l) = R := ⟨_, rfl⟩
  rw [hR]
  have Hno : Hid (¬ LabelsP l → R = false) := fun h => by rw [← hR]; exact yes_f h
  have Hyes : Hid (LabelsP l → R = true) := fun h => by rw [← hR]; exact yes_t h
  have Hk := Lib.hid hk
  have Hz := Lib.hid hz
  clear h hk hR hz
  by_cases h6 : 6 < l.length
  · have Hf := Lib.hid (Hno.out fun h2 => by have := h2.1; omega)
    go_enter Tryd.func20, Tryd.ntmps20
    go_wp2_with fail
    go_ret
    exact ⟨by rw [Hf.out]; rfl, 0, rfl⟩
  have Hmk := Lib.hid (fun h3 => Hyes.out ⟨by omega, h3⟩)
  go_enter Tryd.func20, Tryd.ntmps20
  go_wp2_with fail
  go_loopw [3] (fun i wr => ∃ j : Nat, j ≤ l.length ∧ i = .int .i64 j ∧ Hid (GoodTo l j) ∧ ∃ n, wr = w.drewN n) (fun i _ => l.length - (intOf i).toNat)
  case atStart => exact ⟨0, Nat.zero_le _, rfl, fun i hi hj => by omega, 0, rfl⟩
  case round =>
    obtain ⟨j, hj, rfl, hgood, n0, hwr⟩ := hrel
    have Hw : Hid (∃ n, wr = w.drewN n) := ⟨n0, hwr⟩
    by_cases hlt : j < l.length
    · obtain ⟨g, o, hA, hg, hcc⟩ := (Hk.out) (by omega)
      obtain ⟨us, hus, hc, hls⟩ := hcc j _ (List.getElem?_eq_getElem hlt)
      obtain ⟨rfl, hwf⟩ := Label.opened hls
      have q0 : wr.cell? ⟨g, o + j * 2, none⟩ = some (.string l[j].key) := by rw [hwr]; exact hc 0 _ rfl
      have q1 : wr.cell? ⟨g, o + j * 2 + 1, none⟩ = some (.string l[j].value) := by rw [hwr]; exact hc 1 _ rfl
      have hzj := Hz.out l[j] (List.getElem_mem hlt)
      have HKc := Lib.hid (fun w => spec_key l[j].key w hzj.1)
      have HVc := Lib.hid (fun w => spec_val l[j].value w hzj.2)
      have hji : (0 : Int) ≤ (j : Int) := by omega
      by_cases hK : KeyP l[j].key
      case neg =>
        have Hf := Lib.hid (Hno.out fun h2 => hK (good_at h2.2 hlt).1)
        rw [yes_f hK] at HKc
        subst hA
        clear hwr
        clear hK Hno Hyes Hmk hgood hcc hc hls hus hwf hzj HVc q1
        generalize l[j].key = x at q0 HKc
        go_wp2_with fail
        go_quiet (first | (go_at_call 40; exact Calls.quiet_of (HKc.out _)))
        go_wp2_with fail
        go_ret
        exact ⟨by rw [Hf.out]; rfl, drew_of Hw.out _⟩
      rw [yes_t hK] at HKc
      by_cases hV : ValP l[j].value
      case neg =>
        have Hf := Lib.hid (Hno.out fun h2 => hV (good_at h2.2 hlt).2.1)
        rw [yes_f hV] at HVc
        subst hA
        clear hwr
        clear hK hV Hno Hyes Hmk hgood hcc hc hls hus hwf hzj
        generalize l[j].key = x at q0 HKc
        generalize l[j].value = y at q1 HVc
        go_wp2_with fail
        go_quiet (first | (go_at_call 40; exact Calls.quiet_of (HKc.out _)) | (go_at_call 41; exact Calls.quiet_of (HVc.out _)))
        go_wp2_with fail
        go_ret
        exact ⟨by rw [Hf.out]; rfl, drew_of Hw.out _⟩
      rw [yes_t hV] at HVc
      by_cases hj0 : j = 0
      · have Hg := Lib.hid (good_next hgood.out hlt hK hV (fun m hm => by omega))
        have hn0 : ¬ (0 : Int) < (j : Int) := by omega
        have hn1 : ¬ 0 < j := by omega
        subst hA
        clear hwr
        clear hK hV Hno Hyes hgood hcc hc hls hus hwf hzj hj0
        generalize l[j].key = x at q0 HKc
        generalize l[j].value = y at q1 HVc
        go_wp2_with fail
        go_quiet (first | (go_at_call 40; exact Calls.quiet_of (HKc.out _)) | (go_at_call 41; exact Calls.quiet_of (HVc.out _)))
        go_wp2_with fail
        go_roundw
        case rel => exact ⟨j + 1, by omega, by go_num, Hg.out, drew_of Hw.out _⟩
        case measure => simp [intOf]; omega
      obtain ⟨m, hm⟩ : ∃ m, m + 1 = j := ⟨j - 1, by omega⟩
      have hml : m < l.length := by omega
      obtain ⟨us2, hus2, hc2', hls2⟩ := hcc m _ (List.getElem?_eq_getElem hml)
      obtain ⟨rfl, hwf2⟩ := Label.opened hls2
      have p0 : wr.cell? ⟨g, o + m * 2, none⟩ = some (.string l[m].key) := by rw [hwr]; exact hc2' 0 _ rfl
      have hmi : (j : Int) - 1 = (m : Int) := by omega
      have hjp : (0 : Int) < (j : Int) := by omega
      have hjp1 : 0 < j := by omega
      cases hb : lessB l[m].key l[j].key with
      | true =>
        have Hg := Lib.hid (good_next hgood.out hlt hK hV (fun m' hm' => by obtain rfl : m' = m := by omega
                                                                            exact hb))
        unfold lessB at hb
        subst hA
        clear hwr
        clear hK hV Hno Hyes hgood hcc hc hls hus hwf hzj hj0 hc2' hls2 hus2 hwf2 hm
        generalize l[j].key = x at q0 HKc hb
        generalize l[j].value = y at q1 HVc
        generalize l[m].key = z at p0 hb
        go_wp2_with fail
        go_quiet (first | (go_at_call 40; exact Calls.quiet_of (HKc.out _)) | (go_at_call 41; exact Calls.quiet_of (HVc.out _)))
        go_wp2_with fail
        go_roundw
        case rel => exact ⟨j + 1, by omega, by go_num, Hg.out, drew_of Hw.out _⟩
        case measure => simp [intOf]; omega
      | false =>
        have Hf := Lib.hid (Hno.out fun h2 => by rw [(good_at h2.2 hlt).2.2 m hm] at hb; cases hb)
        unfold lessB at hb
        subst hA
        clear hwr
        clear hK hV Hno Hyes hgood hcc hc hls hus hwf hzj hj0 hc2' hls2 hus2 hwf2 hm Hmk
        generalize l[j].key = x at q0 HKc hb
        generalize l[j].value = y at q1 HVc
        generalize l[m].key = z at p0 hb
        go_wp2_with fail
        go_quiet (first | (go_at_call 40; exact Calls.quiet_of (HKc.out _)) | (go_at_call 41; exact Calls.quiet_of (HVc.out _)))
        go_wp2_with fail
        go_ret
        exact ⟨by rw [Hf.out]; rfl, drew_of Hw.out _⟩
    · obtain rfl : j = l.length := by omega
      have Hf := Lib.hid (Hmk.out hgood.out)
      clear hgood hwr
      go_wp2_with fail
      go_ret
      exact ⟨by rw [Hf.out]; rfl, Hw.out⟩
end Go.Proofs.YthpgbmglgmjjhaaDoor.lab
