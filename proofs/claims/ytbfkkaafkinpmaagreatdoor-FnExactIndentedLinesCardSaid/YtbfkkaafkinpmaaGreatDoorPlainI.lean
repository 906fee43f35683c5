/- impl.PlainOk and what it calls. -/
import Derived.Test.YtbfkkaafkinpmaaGreatDoorGSc
import Derived.Test.YtbfkkaafkinpmaaGreatDoorGKe
import Derived.Test.YtbfkkaafkinpmaaGreatDoorSplitI
import Derived.Test.YtbfkkaafkinpmaaGreatDoorGRnI
namespace Go.Proofs.YtbfkkaafkinpmaaGreatDoor.line
open Go.ChangeShapes Go.WideShapes Go.ChangeAt Go.RowKit
set_option linter.unusedVariables false

theorem impl_trim (s : ByteArray) (w : World) (hs : s.size ≤ 1048576) :
    Calls Tryz.prog 80 #[.string s, .string ⟨#[32]⟩] w fun e w' => e = .returned (.string ⟨(Lib.trimB s.data.toList 32).toArray⟩) ∧ Below w.heap.size w w' := by
  refine (Tryz.strings_Trim_one s 32 (by decide) w (by omega)).mono ?_
  rintro e w' ⟨rfl, h | h⟩
  · exact ⟨rfl, h ▸ Below.refl _ _⟩
  · exact ⟨rfl, h ▸ (Below.refl _ _).drew⟩
theorem impl_bytes (s : ByteArray) (w : World) (hs : s.size ≤ 1048576) (h0 : 0 < s.size) :
    Calls Tryz.prog 70 #[.string s] w fun e w' => e = .returned (.bool (decide (Bytes s))) ∧ Below w.heap.size w w' := by
  obtain ⟨R, hR⟩ : ∃ R, decide (Bytes s) = R := ⟨_, rfl⟩
  rw [hR]
  have HR := Lib.hid hR
  clear hR
  have HC := Lib.hid (fun w => impl_ctl s w hs)
  by_cases c1 : Ctl s
  · rw [decide_eq_true c1] at HC
    have H : Hid (R = false) := by
      unfold Hid
      rw [← HR.out]
      refine decide_eq_false fun h => ?_
      obtain ⟨k, hk, h2⟩ := c1
      exact h.1 k hk (.inl h2)
    clear HR c1
    go_enter Tryz.func70, Tryz.ntmps70
    go_wp2_with fail
    refine (HC.out _).mono ?_
    rintro e w1 ⟨rfl, rfl⟩
    clear HC
    go_wp2_with fail
    go_ret
    exact ⟨by rw [H.out]; rfl, Below.refl _ _⟩
  rw [decide_eq_false c1] at HC
  have HA := Lib.hid (fun w => impl_three s w hs)
  by_cases c2 : Any3 s
  · rw [decide_eq_true c2] at HA
    have H : Hid (R = false) := by
      unfold Hid
      rw [← HR.out]
      refine decide_eq_false fun h => ?_
      obtain ⟨k, hk, h2⟩ := c2
      exact h.1 k hk (.inr h2)
    clear HR c1 c2
    go_enter Tryz.func70, Tryz.ntmps70
    go_wp2_with fail
    refine (HC.out _).mono ?_
    rintro e w1 ⟨rfl, rfl⟩
    clear HC
    go_wp2_with fail
    refine (HA.out _).mono ?_
    rintro e w2 ⟨rfl, hb⟩
    clear HA
    go_wp2_with fail
    go_ret
    exact ⟨by rw [H.out]; rfl, hb⟩
  rw [decide_eq_false c2] at HA
  have HT := Lib.hid (fun w => impl_trim s w hs)
  have ht := trim_eq h0
  generalize (⟨(Lib.trimB s.data.toList 32).toArray⟩ : ByteArray) = T at HT ht
  by_cases c3 : at_ s 0 ≠ 32 ∧ at_ s (s.size - 1) ≠ 32
  · rw [decide_eq_true c3] at ht
    have hat := at_eq s 0 h0
    have hbd := at_bd s 0
    have HX := Lib.hid (fun w => Tryz.strings_IndexByte ⟨#[45, 63, 58, 44, 91, 93, 123, 125, 38, 42, 33, 124, 62, 39, 37, 64, 96]⟩ (at_ s 0) w)
    rw [show (⟨#[45, 63, 58, 44, 91, 93, 123, 125, 38, 42, 33, 124, 62, 39, 37, 64, 96]⟩ : ByteArray).data.toList = firsts from rfl] at HX
    have hf := first_index (at_ s 0) hbd.1 hbd.2
    have H : Hid (R = ! isFirst (at_ s 0)) := by
      unfold Hid
      rw [← HR.out]
      have hodd : ∀ k, k < s.size → ¬ odd (at_ s k) := fun k hk h => by
        rcases h with h | h
        · exact c1 ⟨k, hk, h⟩
        · exact c2 ⟨k, hk, h⟩
      cases e : isFirst (at_ s 0) with
      | false => exact decide_eq_true ⟨hodd, c3.1, c3.2, e⟩
      | true => exact decide_eq_false fun h => by rw [h.2.2.2] at e; cases e
    generalize at_ s 0 = x at hat HX hf H hbd
    generalize isFirst x = b at hf H
    have hfx : decide (Lib.indexByte firsts x.toNat.toUInt8 < 0) = !b := hf
    clear HR c1 c2 c3 hf
    generalize Lib.indexByte firsts x.toNat.toUInt8 = y at HX hfx
    have Hf := Lib.hid hfx
    clear hfx
    go_enter Tryz.func70, Tryz.ntmps70
    go_wp2_with fail
    refine (HC.out _).mono ?_
    rintro e w1 ⟨rfl, rfl⟩
    clear HC
    go_wp2_with fail
    refine (HA.out _).mono ?_
    rintro e w2 ⟨rfl, hb⟩
    clear HA
    go_wp2_with fail
    refine (HT.out _).mono ?_
    rintro e w3 ⟨rfl, hb3⟩
    have Hb := Lib.hid (hb.trans (hb3.mono hb.size))
    clear HT hb hb3
    go_wp2_with fail
    refine (HX.out _).mono ?_
    rintro e w4 ⟨rfl, rfl⟩
    clear HX
    go_wp2_with fail
    go_ret
    exact ⟨by rw [H.out, ← Hf.out]; rfl, Hb.out⟩
  · rw [decide_eq_false c3] at ht
    have H : Hid (R = false) := by
      unfold Hid
      rw [← HR.out]
      exact decide_eq_false fun h => c3 ⟨h.2.1, h.2.2.1⟩
    clear HR c1 c2 c3
    go_enter Tryz.func70, Tryz.ntmps70
    go_wp2_with fail
    refine (HC.out _).mono ?_
    rintro e w1 ⟨rfl, rfl⟩
    clear HC
    go_wp2_with fail
    refine (HA.out _).mono ?_
    rintro e w2 ⟨rfl, hb⟩
    clear HA
    go_wp2_with fail
    refine (HT.out _).mono ?_
    rintro e w3 ⟨rfl, hb3⟩
    have Hb := Lib.hid (hb.trans (hb3.mono hb.size))
    clear HT hb hb3
    go_wp2_with fail
    go_ret
    exact ⟨by rw [H.out]; rfl, Hb.out⟩

/-- What is no string without quotes. -/
def Other (s : ByteArray) : Prop := s.data.toList ∈ wordsL ∨ Figs s
noncomputable instance (s : ByteArray) : Decidable (Other s) := Classical.propDecidable _
theorem impl_other (s : ByteArray) (w : World) (hs : s.size ≤ 1048576) :
    Calls Tryz.prog 72 #[.string s] w fun e w' => e = .returned (.bool (decide (Other s))) ∧ Below w.heap.size w w' := by
  obtain ⟨R, hR⟩ : ∃ R, decide (Other s) = R := ⟨_, rfl⟩
  rw [hR]
  have HR := Lib.hid hR
  clear hR
  have hl := Lib.toList_data s
  by_cases c1 : s.data.toList = [110, 117, 108, 108]
  · have H : Hid (R = true) := by unfold Hid; rw [← HR.out]; exact decide_eq_true (.inl (by rw [c1]; decide))
    have e1 : (s.toList == [110, 117, 108, 108]) = true := by rw [hl, c1]; rfl
    clear HR c1 hl
    go_enter Tryz.func72, Tryz.ntmps72
    go_wp2_with fail
    go_ret
    exact ⟨by rw [H.out]; rfl, Below.refl _ _⟩
  have e1 : (s.toList == [110, 117, 108, 108]) = false := by rw [hl]; exact beq_eq_false_iff_ne.2 c1
  by_cases c2 : s.data.toList = [126]
  · have H : Hid (R = true) := by unfold Hid; rw [← HR.out]; exact decide_eq_true (.inl (by rw [c2]; decide))
    have e2 : (s.toList == [126]) = true := by rw [hl, c2]; rfl
    clear HR c1 c2 hl
    go_enter Tryz.func72, Tryz.ntmps72
    go_wp2_with fail
    go_ret
    exact ⟨by rw [H.out]; rfl, Below.refl _ _⟩
  have e2 : (s.toList == [126]) = false := by rw [hl]; exact beq_eq_false_iff_ne.2 c2
  by_cases c3 : s.data.toList = [116, 114, 117, 101]
  · have H : Hid (R = true) := by unfold Hid; rw [← HR.out]; exact decide_eq_true (.inl (by rw [c3]; decide))
    have e3 : (s.toList == [116, 114, 117, 101]) = true := by rw [hl, c3]; rfl
    clear HR c1 c2 c3 hl
    go_enter Tryz.func72, Tryz.ntmps72
    go_wp2_with fail
    go_ret
    exact ⟨by rw [H.out]; rfl, Below.refl _ _⟩
  have e3 : (s.toList == [116, 114, 117, 101]) = false := by rw [hl]; exact beq_eq_false_iff_ne.2 c3
  by_cases c4 : s.data.toList = [102, 97, 108, 115, 101]
  · have H : Hid (R = true) := by unfold Hid; rw [← HR.out]; exact decide_eq_true (.inl (by rw [c4]; decide))
    have e4 : (s.toList == [102, 97, 108, 115, 101]) = true := by rw [hl, c4]; rfl
    clear HR c1 c2 c3 c4 hl
    go_enter Tryz.func72, Tryz.ntmps72
    go_wp2_with fail
    go_ret
    exact ⟨by rw [H.out]; rfl, Below.refl _ _⟩
  have e4 : (s.toList == [102, 97, 108, 115, 101]) = false := by rw [hl]; exact beq_eq_false_iff_ne.2 c4
  have H : Hid (R = decide (Figs s)) := by
    unfold Hid
    rw [← HR.out]
    have hno : s.data.toList ∉ wordsL := by
      intro h
      unfold wordsL at h
      simp only [List.mem_cons, List.not_mem_nil, or_false] at h
      rcases h with h | h | h | h
      · exact c1 h
      · exact c2 h
      · exact c3 h
      · exact c4 h
    by_cases c : Figs s
    · rw [decide_eq_true c]; exact decide_eq_true (show Other s from .inr c)
    · rw [decide_eq_false c]
      refine decide_eq_false (show ¬ Other s from ?_)
      rintro (h | h)
      · exact hno h
      · exact c h
  have HS := Lib.hid (split.impl_any s w (by unfold maxLen; omega))
  have hf := figs_snd s
  generalize split.fst s = f at HS
  generalize split.snd s = g at HS hf
  have Hf := Lib.hid hf
  clear HR c1 c2 c3 c4 hl hf
  go_enter Tryz.func72, Tryz.ntmps72
  go_wp2_with fail
  refine HS.out.mono ?_
  rintro e w1 ⟨rfl, hb⟩
  clear HS
  go_wp2_with fail
  go_ret
  exact ⟨by rw [H.out, ← Hf.out]; rfl, hb⟩

set_option maxHeartbeats 1000000 in
theorem impl_plain (s : ByteArray) (w : World) (hs : s.size ≤ 1048576) (hT : rune.Tabs w) (hM : MaxL w) :
    Calls Tryz.prog 61 #[.string s] w fun e w' => e = .returned (.bool (plainF s)) ∧ Below w.heap.size w w' := by
  obtain ⟨R, hR⟩ : ∃ R, plainF s = R := ⟨_, rfl⟩
  rw [hR]
  have HR := Lib.hid hR
  clear hR
  by_cases c0 : s.size = 0
  · have H : Hid (R = false) := by unfold Hid; rw [← HR.out]; exact plain_no fun h => by have := h.pos; omega
    have he := empty_yes c0
    clear HR c0 hT hM
    go_enter Tryz.func61, Tryz.ntmps61
    go_wp2_with fail
    go_ret
    exact ⟨by rw [H.out]; rfl, Below.refl _ _⟩
  have he := empty_no (f := s) (by omega)
  by_cases c1 : 400 < s.size
  · have H : Hid (R = false) := by unfold Hid; rw [← HR.out]; exact plain_no fun h => by have := h.le; omega
    clear HR c0 hT hM
    go_enter Tryz.func61, Tryz.ntmps61
    go_wp2_with fail
    go_ret
    exact ⟨by rw [H.out]; rfl, Below.refl _ _⟩
  have HU := Lib.hid (rune.impl_utf s w hs hT)
  by_cases c2 : rune.okS s = true
  · rw [c2] at HU
    have HB := Lib.hid (fun w => impl_bytes s w hs (by omega))
    have hpos : 0 < s.size := by omega
    by_cases c3 : Bytes s
    · rw [decide_eq_true c3] at HB
      have HK := Lib.hid (fun w h => impl_ke s w hs h)
      have HM := Lib.hid hM
      by_cases c4 : ke s < 0
      · have h4 : ke s = -1 := by
          rcases ke_cases s with ⟨n, h, _⟩ | ⟨h, _⟩ <;> omega
        have HO := Lib.hid (fun w => impl_other s w hs)
        have H : Hid (R = ! decide (Other s)) := by
          unfold Hid
          rw [← HR.out]
          by_cases c5 : Other s
          · rw [decide_eq_true c5]
            refine plain_no fun h => ?_
            rcases c5 with c5 | c5
            · exact h.word c5
            · exact h.figs c5
          · rw [decide_eq_false c5]
            exact plain_of hpos (by omega) c2 c3 h4 (fun h => c5 (.inr h)) (fun h => c5 (.inl h))
        generalize decide (Other s) = o at HO H
        generalize ke s = z at HK c4
        clear HR c0 c2 c3 h4 hT hM hpos
        go_enter Tryz.func61, Tryz.ntmps61
        go_wp2_with fail
        refine HU.out.mono ?_
        rintro e w1 ⟨rfl, hb1⟩
        clear HU
        go_wp2_with fail
        refine (HB.out _).mono ?_
        rintro e w2 ⟨rfl, hb2⟩
        have hb3 := hb1.trans (hb2.mono hb1.size)
        have HM2 := Lib.hid (HM.out.below hb3)
        have Hb := Lib.hid hb3
        clear HB hb1 hb2 hb3 HM
        go_wp2_with fail
        refine (HK.out _ HM2.out).mono ?_
        rintro e w3 ⟨rfl, rfl⟩
        clear HK
        go_wp2_with fail
        refine (HO.out _).mono ?_
        rintro e w4 ⟨rfl, hb4⟩
        clear HO
        go_wp2_with fail
        go_ret
        exact ⟨by rw [H.out]; rfl, Hb.out.trans (hb4.mono Hb.out.size)⟩
      · have H : Hid (R = false) := by unfold Hid; rw [← HR.out]; exact plain_no fun h => by have := plain_ke h; omega
        generalize ke s = z at HK c4
        clear HR c0 c2 c3 hT hM hpos
        go_enter Tryz.func61, Tryz.ntmps61
        go_wp2_with fail
        refine HU.out.mono ?_
        rintro e w1 ⟨rfl, hb1⟩
        clear HU
        go_wp2_with fail
        refine (HB.out _).mono ?_
        rintro e w2 ⟨rfl, hb2⟩
        have hb3 := hb1.trans (hb2.mono hb1.size)
        have HM2 := Lib.hid (HM.out.below hb3)
        have Hb := Lib.hid hb3
        clear HB hb1 hb2 hb3 HM
        go_wp2_with fail
        refine (HK.out _ HM2.out).mono ?_
        rintro e w3 ⟨rfl, rfl⟩
        clear HK
        go_wp2_with fail
        go_ret
        exact ⟨by rw [H.out]; rfl, Hb.out⟩
    · rw [decide_eq_false c3] at HB
      have H : Hid (R = false) := by unfold Hid; rw [← HR.out]; exact plain_no fun h => c3 (plain_bytes h)
      clear HR c0 c2 c3 hT hM hpos
      go_enter Tryz.func61, Tryz.ntmps61
      go_wp2_with fail
      refine HU.out.mono ?_
      rintro e w1 ⟨rfl, hb1⟩
      clear HU
      go_wp2_with fail
      refine (HB.out _).mono ?_
      rintro e w2 ⟨rfl, hb2⟩
      have Hb := Lib.hid (hb1.trans (hb2.mono hb1.size))
      clear HB hb1 hb2
      go_wp2_with fail
      go_ret
      exact ⟨by rw [H.out]; rfl, Hb.out⟩
  · have c3 : rune.okS s = false := by simpa using c2
    rw [c3] at HU
    have H : Hid (R = false) := by unfold Hid; rw [← HR.out]; exact plain_no fun h => c2 h.utf
    clear HR c0 c2 c3 hT hM
    go_enter Tryz.func61, Tryz.ntmps61
    go_wp2_with fail
    refine HU.out.mono ?_
    rintro e w1 ⟨rfl, hb1⟩
    clear HU
    go_wp2_with fail
    go_ret
    exact ⟨by rw [H.out]; rfl, hb1⟩
end Go.Proofs.YtbfkkaafkinpmaaGreatDoor.line
